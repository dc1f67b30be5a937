/- What a reading has met; kids read one after another: plain mathematics. Conditions: none. -/
import Derived.WalkKit
/- Keys and their order; pairs by their keys: plain mathematics. Conditions: none. -/
namespace Go.Proofs.Ytkpjkglheegmgaa
set_option linter.unusedSimpArgs false
set_option linter.unusedVariables false

/-- A key, or a value: a text of a length that every machine keeps. -/
structure Key where
  s : ByteArray
  h : s.size ≤ 140737488355328
def noKey : Key := ⟨⟨#[]⟩, by decide⟩
instance : LT Key := ⟨fun a b => a.s.toList < b.s.toList⟩
instance : LE Key := ⟨fun a b => a.s.toList ≤ b.s.toList⟩
instance : DecidableLT Key := fun a b => inferInstanceAs (Decidable (a.s.toList < b.s.toList))
instance : DecidableLE Key := fun a b => inferInstanceAs (Decidable (a.s.toList ≤ b.s.toList))
theorem ba_eq {x y : ByteArray} : x.toList = y.toList ↔ x = y := by
  refine ⟨fun h => ?_, fun h => by rw [h]⟩
  rw [ByteArray.toList_eq, ByteArray.toList_eq] at h
  exact ByteArray.ext (Array.toList_inj.1 (by simpa using h))
theorem key_eq {x y : Key} : x.s.toList = y.s.toList ↔ x = y := by
  rw [ba_eq]
  cases x; cases y
  simp
instance : DecidableEq Key := fun a b => decidable_of_iff (a.s.toList = b.s.toList) key_eq
theorem lt_def (a b : Key) : (a < b) = (a.s.toList < b.s.toList) := rfl
theorem le_def (a b : Key) : (a ≤ b) = (a.s.toList ≤ b.s.toList) := rfl
instance : Std.IsLinearOrder Key where
  le_refl a := by rw [le_def]; exact Std.IsPreorder.le_refl _
  le_trans a b c h1 h2 := by rw [le_def] at *; exact Std.IsPreorder.le_trans _ _ _ h1 h2
  le_antisymm a b h1 h2 := by
    rw [le_def] at *
    exact key_eq.1 (Std.IsPartialOrder.le_antisymm _ _ h1 h2)
  le_total a b := by rw [le_def, le_def]; exact Std.IsLinearPreorder.le_total _ _
instance : Std.LawfulOrderLT Key where
  lt_iff a b := by rw [lt_def, le_def, le_def]; exact Std.LawfulOrderLT.lt_iff _ _
theorem less_iff : ∀ (x y : List UInt8), Op.bytesLess x y = true ↔ x < y
  | [], [] => by simp [Op.bytesLess]
  | _ :: _, [] => by simp [Op.bytesLess]
  | [], _ :: _ => by simp [Op.bytesLess]
  | a :: x, b :: y => by
    have ih := less_iff x y
    rw [Op.bytesLess]
    grind [List.cons_lt_cons_iff]
theorem less_dec (x y : Key) : Op.bytesLess x.s.toList y.s.toList = decide (x < y) := by
  rw [Bool.eq_iff_iff, less_iff, decide_eq_true_iff, lt_def]
/-- A pair: a key, and what stands under it. -/
abbrev Pr := Key × Key

/-- Keys that rise. -/
def Asc (l : List Key) : Prop := l.Pairwise (· < ·)
theorem Asc.get {l : List Key} (h : Asc l) {i j : Nat} (hij : i < j) (hj : j < l.length) : l[i]'(by omega) < l[j] := List.pairwise_iff_getElem.1 h i j (by omega) hj hij
theorem Asc.nil : Asc [] := List.Pairwise.nil
theorem Asc.take {l : List Key} (h : Asc l) (n : Nat) : Asc (l.take n) := List.Pairwise.sublist (List.take_sublist n l) h
theorem Asc.drop {l : List Key} (h : Asc l) (n : Nat) : Asc (l.drop n) := List.Pairwise.sublist (List.drop_sublist n l) h
theorem asc_cons {a : Key} {l : List Key} : Asc (a :: l) ↔ (∀ x ∈ l, a < x) ∧ Asc l := List.pairwise_cons
theorem asc_append {a b : List Key} : Asc (a ++ b) ↔ Asc a ∧ Asc b ∧ ∀ x ∈ a, ∀ y ∈ b, x < y := List.pairwise_append

/-- How many of a list's first are below x. -/
def pos : List Key → Key → Nat
  | [], _ => 0
  | a :: l, x => if a < x then pos l x + 1 else 0
/-- How many of a list's first are not above x. -/
def tow : List Key → Key → Nat
  | [], _ => 0
  | a :: l, x => if a ≤ x then tow l x + 1 else 0
theorem pos_le : ∀ (l : List Key) (x : Key), pos l x ≤ l.length
  | [], _ => by simp [pos]
  | a :: l, x => by have := pos_le l x; rw [pos]; split <;> simp <;> omega
theorem tow_le : ∀ (l : List Key) (x : Key), tow l x ≤ l.length
  | [], _ => by simp [tow]
  | a :: l, x => by have := tow_le l x; rw [tow]; split <;> simp <;> omega
theorem pos_below : ∀ {l : List Key} {x : Key} {i : Nat} (h : i < pos l x), l[i]'(Nat.lt_of_lt_of_le h (pos_le l x)) < x
  | [], x, i, h => by simp [pos] at h
  | a :: l, x, 0, h => by
    rw [pos] at h
    split at h
    · assumption
    · omega
  | a :: l, x, i + 1, h => by
    have h' : i < pos l x := by
      rw [pos] at h
      split at h <;> omega
    exact pos_below h'
theorem pos_above : ∀ {l : List Key} {x : Key} (hs : Asc l) {i : Nat} (h : pos l x ≤ i) (hi : i < l.length), x ≤ l[i]
  | [], x, _, i, _, hi => by simp at hi
  | a :: l, x, hs, i, h, hi => by
    obtain ⟨h1, h2⟩ := asc_cons.1 hs
    rw [pos] at h
    split at h
    · obtain ⟨i, rfl⟩ : ∃ k, i = k + 1 := ⟨i - 1, by omega⟩
      exact pos_above h2 (by omega) (by simpa using hi)
    · cases i with
      | zero => simp; grind
      | succ i =>
        have := h1 (l[i]'(by simpa using hi)) (List.getElem_mem _)
        simp; grind
theorem tow_below : ∀ {l : List Key} {x : Key} {i : Nat} (h : i < tow l x), l[i]'(Nat.lt_of_lt_of_le h (tow_le l x)) ≤ x
  | [], x, i, h => by simp [tow] at h
  | a :: l, x, 0, h => by
    rw [tow] at h
    split at h
    · assumption
    · omega
  | a :: l, x, i + 1, h => by
    have h' : i < tow l x := by
      rw [tow] at h
      split at h <;> omega
    exact tow_below h'
theorem tow_above : ∀ {l : List Key} {x : Key} (hs : Asc l) {i : Nat} (h : tow l x ≤ i) (hi : i < l.length), x < l[i]
  | [], x, _, i, _, hi => by simp at hi
  | a :: l, x, hs, i, h, hi => by
    obtain ⟨h1, h2⟩ := asc_cons.1 hs
    rw [tow] at h
    split at h
    · obtain ⟨i, rfl⟩ : ∃ k, i = k + 1 := ⟨i - 1, by omega⟩
      exact tow_above h2 (by omega) (by simpa using hi)
    · cases i with
      | zero => simp; grind
      | succ i =>
        have := h1 (l[i]'(by simpa using hi)) (List.getElem_mem _)
        simp; grind
/-- Where a key stands: what is ahead is below, what is from there on is not. -/
theorem pos_eq {l : List Key} {x : Key} (hs : Asc l) {p : Nat} (hp : p ≤ l.length) (h1 : ∀ i (h : i < p), l[i]'(by omega) < x) (h2 : ∀ i (h : i < l.length), p ≤ i → x ≤ l[i]) : pos l x = p := by
  have hl := pos_le l x
  rcases Nat.lt_trichotomy (pos l x) p with h | h | h
  · have a := pos_above hs (Nat.le_refl _) (by omega : pos l x < l.length)
    have b := h1 (pos l x) h
    grind
  · exact h
  · have a := pos_below h
    have b := h2 p (by omega) (Nat.le_refl _)
    grind
theorem mem_pos {l : List Key} {x : Key} (hs : Asc l) : x ∈ l ↔ ∃ h : pos l x < l.length, l[pos l x] = x := by
  constructor
  · intro hm
    obtain ⟨i, hi, rfl⟩ := List.getElem_of_mem hm
    have : pos l l[i] = i := pos_eq hs (by omega) (fun j hj => hs.get hj hi) (fun j hj hij => by
      rcases Nat.lt_or_ge i j with h | h
      · have := hs.get h hj; grind
      · have : i = j := by omega
        subst this; grind)
    exact ⟨by omega, by simp [this]⟩
  · rintro ⟨h, e⟩
    rw [← e]
    exact List.getElem_mem _
theorem tow_eq {l : List Key} {x : Key} (hs : Asc l) : tow l x = if x ∈ l then pos l x + 1 else pos l x := by
  induction l with
  | nil => simp [tow, pos]
  | cons a l ih =>
    obtain ⟨h1, h2⟩ := asc_cons.1 hs
    rw [tow, pos, ih h2]
    by_cases ha : a < x
    · rw [if_pos ha, if_pos (by grind)]
      have : x ≠ a := by grind
      by_cases hm : x ∈ l <;> simp [hm, this]
    · rw [if_neg ha]
      by_cases he : x = a
      · subst he
        have h3 : x ∉ l := fun hm => by have := h1 x hm; grind
        have h4 : pos l x = 0 := by
          cases l with
          | nil => rfl
          | cons b l => rw [pos, if_neg (by have := h1 b (by simp); grind)]
        rw [if_pos (by grind), if_neg h3, if_pos (by simp), h4]
      · have h3 : x ∉ l := fun hm => by have := h1 x hm; grind
        rw [if_neg (by grind), if_neg (by simp [he, h3])]

/-- The pairs that follow a put, or (laid ahead) a taking away. -/
def aft (k v : Key) : Bool → List Pr → List Pr
  | laid, [] => if laid = true then [] else [(k, v)]
  | laid, p :: l => (if laid = false ∧ k ≤ p.1 then [(k, v)] else []) ++ ((if p.1 ≠ k then [p] else []) ++ aft k v (laid || decide (k ≤ p.1)) l)
theorem aft_laid (k v : Key) : ∀ (l : List Pr), aft k v true l = l.filter (fun p => decide (p.1 ≠ k))
  | [] => rfl
  | p :: l => by
    rw [aft, Bool.true_or, aft_laid k v l, List.filter_cons]
    by_cases h : p.1 = k <;> simp [h]
theorem aft_behind (k v : Key) (c : List Pr) (hc : ∀ p ∈ c, k < p.1) : ∀ (laid : Bool) (b : List Pr), aft k v laid (b ++ c) = aft k v laid b ++ c
  | laid, [] => by
    have ht : aft k v true c = c := by
      rw [aft_laid, List.filter_eq_self]
      intro p hp
      have := hc p hp
      simp; grind
    cases c with
    | nil => simp [aft]
    | cons p c =>
      cases laid
      · have h1 := hc p (by simp)
        have h2 : k ≤ p.1 := by grind
        have h3 : p.1 ≠ k := by grind
        have ht' : aft k v true c = c := by
          rw [aft_laid, List.filter_eq_self]
          intro q hq
          have := hc q (by simp [hq])
          simp; grind
        simp only [List.nil_append]
        rw [aft.eq_2, if_pos ⟨rfl, h2⟩, if_pos h3, decide_eq_true h2, Bool.or_true, ht']
        simp [aft]
      · simp only [List.nil_append]
        rw [ht]; simp [aft]
  | laid, p :: b => by
    rw [List.cons_append, aft, aft, aft_behind k v c hc]
    simp [List.append_assoc]
theorem aft_ahead (k v : Key) (b : List Pr) : ∀ (laid : Bool) (a : List Pr), (∀ p ∈ a, p.1 < k) → aft k v laid (a ++ b) = a ++ aft k v laid b
  | laid, [], _ => rfl
  | laid, p :: a, h => by
    have h1 := h p (by simp)
    have h2 : ¬ k ≤ p.1 := by grind
    have h3 : p.1 ≠ k := by grind
    rw [List.cons_append, aft, if_neg (by simp [h2]), if_pos h3, decide_eq_false h2, Bool.or_false, aft_ahead k v b laid a (fun q hq => h q (by simp [hq]))]
    simp

/-- A thing put in at a place, and taken out of it. -/
def ins1 {α : Type} (l : List α) (i : Nat) (x : α) : List α := l.take i ++ x :: l.drop i
def rem1 {α : Type} (l : List α) (i : Nat) : List α := l.take i ++ l.drop (i + 1)
theorem ins1_len {α : Type} (l : List α) (i : Nat) (x : α) : (ins1 l i x).length = l.length + 1 := by
  have := congrArg List.length (List.take_append_drop i l)
  simp [ins1] at *; omega
theorem rem1_len {α : Type} (l : List α) (i : Nat) (h : i < l.length) : (rem1 l i).length = l.length - 1 := by
  simp [rem1]; omega
/-- What a leaf's lists are behind a put. -/
def putK (ks : List Key) (k : Key) : List Key := if k ∈ ks then ks else ins1 ks (pos ks k) k
def putV (ks vs : List Key) (k v : Key) : List Key := if k ∈ ks then ins1 (rem1 vs (pos ks k)) (pos ks k) v else ins1 vs (pos ks k) v
theorem put_zip (k v : Key) : ∀ (ks vs : List Key), Asc ks → vs.length = ks.length → (putK ks k).zip (putV ks vs k v) = aft k v false (ks.zip vs) := by
  intro ks
  induction ks with
  | nil =>
    intro vs _ hl
    have : vs = [] := List.eq_nil_of_length_eq_zero (by simpa using hl)
    subst this
    simp [putK, putV, ins1, pos, aft]
  | cons a ks ih =>
    intro vs hs hl
    obtain ⟨h1, h2⟩ := asc_cons.1 hs
    match vs, hl with
    | b :: vs, hl =>
      have hl' : vs.length = ks.length := by simpa using hl
      have hgt : k ≤ a → aft k v true (ks.zip vs) = ks.zip vs := fun hka => by
        rw [aft_laid, List.filter_eq_self]
        intro p hp
        obtain ⟨x, y⟩ := p
        have := h1 x (List.of_mem_zip hp).1
        simp; grind
      simp only [List.zip_cons_cons]
      rw [aft]
      by_cases hak : a < k
      · have h3 : ¬ k ≤ a := by grind
        have h4 : a ≠ k := by grind
        have h5 : k ≠ a := fun e => h4 e.symm
        have ih' := ih vs h2 hl'
        rw [if_neg (by simp [h3]), if_pos h4, decide_eq_false h3, Bool.or_false, ← ih']
        unfold putK putV ins1 rem1
        by_cases hm : k ∈ ks <;> simp [hm, h5, pos, hak]
      · have h3 : k ≤ a := by grind
        rw [if_pos ⟨rfl, h3⟩, decide_eq_true h3, Bool.or_true, hgt h3]
        by_cases he : a = k
        · subst he
          simp [putK, putV, ins1, rem1, pos, hak]
        · have h5 : k ≠ a := fun e => he e.symm
          have h6 : k ∉ ks := fun hm => by have := h1 k hm; grind
          simp [putK, putV, ins1, pos, hak, he, h5, h6]
theorem asc_putK {ks : List Key} {k : Key} (hs : Asc ks) : Asc (putK ks k) := by
  unfold putK
  split
  · exact hs
  · rename_i hm
    unfold ins1
    have hd := hs
    rw [← List.take_append_drop (pos ks k) ks] at hd
    obtain ⟨h1, h2, h3⟩ := asc_append.1 hd
    rw [asc_append, asc_cons]
    refine ⟨h1, ⟨fun x hx => ?_, h2⟩, fun x hx y hy => ?_⟩
    · obtain ⟨i, hi, rfl⟩ := List.getElem_of_mem hx
      rw [List.getElem_drop]
      have := pos_above hs (x := k) (i := pos ks k + i) (by omega) (by simp at hi; omega)
      have hne : ks[pos ks k + i]'(by simp at hi; omega) ≠ k := fun e => hm (by rw [← e]; exact List.getElem_mem _)
      grind
    · rcases List.mem_cons.1 hy with rfl | hy
      · obtain ⟨i, hi, rfl⟩ := List.getElem_of_mem hx
        rw [List.getElem_take]
        exact pos_below (by simp at hi; omega)
      · exact h3 x hx y hy
theorem mem_putK {ks : List Key} {k x : Key} : x ∈ putK ks k ↔ x = k ∨ x ∈ ks := by
  unfold putK
  split
  · rename_i h
    constructor
    · exact .inr
    · rintro (rfl | h') <;> assumption
  · unfold ins1
    conv => rhs; rw [← List.take_append_drop (pos ks k) ks]
    simp only [List.mem_append, List.mem_cons]
    constructor
    · rintro (h | h | h) <;> simp [h]
    · rintro (h | h | h) <;> simp [h]
theorem putK_len (ks : List Key) (k : Key) : ks.length ≤ (putK ks k).length ∧ (putK ks k).length ≤ ks.length + 1 := by
  unfold putK
  split
  · omega
  · rw [ins1_len]; omega
theorem putV_len {ks vs : List Key} {k v : Key} (hs : Asc ks) (hl : vs.length = ks.length) : (putV ks vs k v).length = (putK ks k).length := by
  unfold putK putV
  split
  · rename_i hm
    obtain ⟨h, _⟩ := (mem_pos hs).1 hm
    rw [ins1_len, rem1_len _ _ (by omega)]; omega
  · rw [ins1_len, ins1_len, hl]
/-- What a leaf's lists are behind a taking away. -/
def delK (ks : List Key) (k : Key) : List Key := if k ∈ ks then rem1 ks (pos ks k) else ks
def delV (ks vs : List Key) (k : Key) : List Key := if k ∈ ks then rem1 vs (pos ks k) else vs
theorem del_zip (k v : Key) : ∀ (ks vs : List Key), Asc ks → vs.length = ks.length → (delK ks k).zip (delV ks vs k) = aft k v true (ks.zip vs) := by
  intro ks
  induction ks with
  | nil =>
    intro vs _ hl
    simp [delK, aft]
  | cons a ks ih =>
    intro vs hs hl
    obtain ⟨h1, h2⟩ := asc_cons.1 hs
    match vs, hl with
    | b :: vs, hl =>
      have hl' : vs.length = ks.length := by simpa using hl
      have ih' := ih vs h2 hl'
      simp only [List.zip_cons_cons]
      rw [aft, if_neg (by simp), Bool.true_or, ← ih']
      by_cases hak : a < k
      · have h4 : a ≠ k := by grind
        have h5 : k ≠ a := fun e => h4 e.symm
        unfold delK delV rem1
        by_cases hm : k ∈ ks <;> simp [hm, h4, h5, pos, hak]
      · have h6 : k ∉ ks := fun hm => by have := h1 k hm; grind
        by_cases he : a = k
        · subst he
          simp [delK, delV, rem1, pos, hak, h6]
        · have h5 : k ≠ a := fun e => he e.symm
          simp [delK, delV, he, h5, h6]
theorem sub_delK (ks : List Key) (k : Key) : (delK ks k).Sublist ks := by
  unfold delK
  split
  · unfold rem1
    conv => rhs; rw [← List.take_append_drop (pos ks k) ks]
    exact List.Sublist.append (List.Sublist.refl _) (by rw [← List.drop_drop]; exact List.drop_sublist _ _)
  · exact List.Sublist.refl _
theorem delK_len {ks : List Key} {k : Key} (hs : Asc ks) : (delK ks k).length ≤ ks.length ∧ ks.length ≤ (delK ks k).length + 1 ∧ (k ∉ ks → delK ks k = ks) := by
  unfold delK
  split
  · rename_i hm
    obtain ⟨h, _⟩ := (mem_pos hs).1 hm
    rw [rem1_len _ _ h]
    exact ⟨by omega, by omega, fun h => absurd hm h⟩
  · exact ⟨by omega, by omega, fun _ => rfl⟩
theorem delV_len {ks vs : List Key} {k : Key} (hs : Asc ks) (hl : vs.length = ks.length) : (delV ks vs k).length = (delK ks k).length := by
  unfold delK delV
  split
  · rename_i hm
    obtain ⟨h, _⟩ := (mem_pos hs).1 hm
    rw [rem1_len _ _ h, rem1_len _ _ (by omega), hl]
  · exact hl
end Go.Proofs.Ytkpjkglheegmgaa
/- Trees of pairs, which may be, and what a put makes of one: plain mathematics. Conditions: none. -/
namespace Go.Proofs.Ytkpjkglheegmgaa
set_option linter.unusedSimpArgs false
set_option linter.unusedVariables false

/-- A node and all below it: its keys, its values, its kids. -/
inductive Tr where
  | mk (ks vs : List Key) (cs : List Tr)
def Tr.ks : Tr → List Key
  | .mk k _ _ => k
def Tr.vs : Tr → List Key
  | .mk _ v _ => v
def Tr.cs : Tr → List Tr
  | .mk _ _ c => c
@[simp] theorem Tr.ks_mk (k v : List Key) (c : List Tr) : (Tr.mk k v c).ks = k := rfl
@[simp] theorem Tr.vs_mk (k v : List Key) (c : List Tr) : (Tr.mk k v c).vs = v := rfl
@[simp] theorem Tr.cs_mk (k v : List Key) (c : List Tr) : (Tr.mk k v c).cs = c := rfl
theorem Tr.eta : (t : Tr) → .mk t.ks t.vs t.cs = t
  | .mk _ _ _ => rfl
/-- The pairs of a tree whose leaves stand n below its root. -/
def prs : Nat → Tr → List Pr
  | 0, t => t.ks.zip t.vs
  | n + 1, t => t.cs.flatMap (prs n)
theorem prs_succ (n : Nat) (t : Tr) : prs (n + 1) t = t.cs.flatMap (prs n) := rfl

/-- A bound; none is none. -/
abbrev Bd := Option Key
def Ge (lo : Bd) (k : Key) : Prop := ∀ l, lo = some l → l ≤ k
def Gt (lo : Bd) (k : Key) : Prop := ∀ l, lo = some l → l < k
def Bel (k : Key) (hi : Bd) : Prop := ∀ h, hi = some h → k < h
theorem Gt.ge {lo : Bd} {k : Key} (h : Gt lo k) : Ge lo k := fun l e => by have := h l e; grind
theorem Ge.trans {lo : Bd} {k x : Key} (h : Ge lo k) (hx : k ≤ x) : Ge lo x := fun l e => by have := h l e; grind
theorem Ge.lt {lo : Bd} {k x : Key} (h : Ge lo k) (hx : k < x) : Gt lo x := fun l e => by have := h l e; grind
theorem Bel.trans {hi : Bd} {k x : Key} (h : Bel k hi) (hx : x < k) : Bel x hi := fun l e => by have := h l e; grind
theorem ge_none (k : Key) : Ge none k := fun l e => by cases e
theorem bel_none (k : Key) : Bel k none := fun l e => by cases e
theorem ge_some {l k : Key} : Ge (some l) k ↔ l ≤ k := ⟨fun h => h l rfl, fun h l' e => by cases e; exact h⟩
theorem gt_some {l k : Key} : Gt (some l) k ↔ l < k := ⟨fun h => h l rfl, fun h l' e => by cases e; exact h⟩
theorem bel_some {l k : Key} : Bel k (some l) ↔ k < l := ⟨fun h => h l rfl, fun h l' e => by cases e; exact h⟩

/-- Kids with keys between them, each within its own bounds. -/
def Chain (P : Bd → Bd → Tr → Prop) : Bd → Bd → List Key → List Tr → Prop
  | lo, hi, [], [c] => P lo hi c
  | lo, hi, k :: ks, c :: cs => P lo (some k) c ∧ Chain P (some k) hi ks cs
  | _, _, _, _ => False
/-- Kids each with a key behind it. -/
def Pre (P : Bd → Bd → Tr → Prop) : Bd → List Key → List Tr → Prop
  | _, [], [] => True
  | lo, k :: ks, c :: cs => P lo (some k) c ∧ Pre P (some k) ks cs
  | _, _, _ => False
/-- Kids each with a key ahead of it. -/
def Post (P : Bd → Bd → Tr → Prop) (hi : Bd) : List Key → List Tr → Prop
  | [], [] => True
  | k :: ks, cs => Chain P (some k) hi ks cs
  | _, _ => False
def lst (lo : Bd) : List Key → Bd
  | [] => lo
  | k :: ks => lst (some k) ks
def hed (hi : Bd) : List Key → Bd
  | [] => hi
  | k :: _ => some k
theorem chain_at {P : Bd → Bd → Tr → Prop} {hi : Bd} {ks2 : List Key} {c : Tr} {cs2 : List Tr} : ∀ (lo : Bd) (ks1 : List Key) (cs1 : List Tr), cs1.length = ks1.length →
    (Chain P lo hi (ks1 ++ ks2) (cs1 ++ c :: cs2) ↔ Pre P lo ks1 cs1 ∧ P (lst lo ks1) (hed hi ks2) c ∧ Post P hi ks2 cs2)
  | lo, [], [], _ => by
    match ks2, cs2 with
    | [], [] => simp [Chain, Pre, Post, lst, hed]
    | [], _ :: _ => simp [Chain, Pre, Post, lst, hed]
    | k :: ks, cs => simp [Chain, Pre, Post, lst, hed]
  | lo, k :: ks1, c1 :: cs1, h => by
    have ih := chain_at (P := P) (hi := hi) (ks2 := ks2) (c := c) (cs2 := cs2) (some k) ks1 cs1 (by simpa using h)
    simp only [List.cons_append, Chain, Pre, lst]
    rw [ih]
    simp only [and_assoc]
  | lo, [], _ :: _, h => by simp at h
  | lo, _ :: _, [], h => by simp at h
theorem chain_len {P : Bd → Bd → Tr → Prop} {hi : Bd} : ∀ (lo : Bd) (ks : List Key) (cs : List Tr), Chain P lo hi ks cs → cs.length = ks.length + 1
  | lo, [], [c], _ => rfl
  | lo, k :: ks, c :: cs, h => by have := chain_len _ _ _ h.2; simp [this]
  | lo, [], [], h => h.elim
  | lo, [], _ :: _ :: _, h => h.elim
  | lo, _ :: _, [], h => h.elim
/-- Cut at a key. -/
theorem chain_cut {P : Bd → Bd → Tr → Prop} {hi : Bd} {k : Key} {ks2 : List Key} {cs2 : List Tr} : ∀ (lo : Bd) (ks1 : List Key) (cs1 : List Tr), cs1.length = ks1.length + 1 →
    (Chain P lo hi (ks1 ++ k :: ks2) (cs1 ++ cs2) ↔ Chain P lo (some k) ks1 cs1 ∧ Chain P (some k) hi ks2 cs2)
  | lo, [], [c], _ => by simp [Chain]
  | lo, k1 :: ks1, c1 :: cs1, h => by
    have ih := chain_cut (P := P) (hi := hi) (k := k) (ks2 := ks2) (cs2 := cs2) (some k1) ks1 cs1 (by simpa using h)
    simp only [List.cons_append, Chain]
    rw [ih, and_assoc]
  | lo, [], [], h => by simp at h
  | lo, [], _ :: _ :: _, h => by simp at h
  | lo, _ :: _, [], h => by simp at h

/-- Keys within bounds. -/
def Within (lo hi : Bd) (ks : List Key) : Prop := ∀ k ∈ ks, Ge lo k ∧ Bel k hi
/-- A tree that may be within bounds, its leaves n below its root; the root has from a to b keys, others 2 to 4. -/
def Ok : Nat → Nat → Nat → Bd → Bd → Tr → Prop
  | 0, a, b, lo, hi, t => (a ≤ t.ks.length ∧ t.ks.length ≤ b) ∧ Asc t.ks ∧ Within lo hi t.ks ∧ t.vs.length = t.ks.length ∧ t.cs = []
  | n + 1, a, b, lo, hi, t => (a ≤ t.ks.length ∧ t.ks.length ≤ b) ∧ Asc t.ks ∧ Within lo hi t.ks ∧ t.vs = [] ∧ Chain (Ok n 2 4) lo hi t.ks t.cs
theorem Ok.len : {n a b : Nat} → {lo hi : Bd} → {t : Tr} → Ok n a b lo hi t → a ≤ t.ks.length ∧ t.ks.length ≤ b
  | 0, _, _, _, _, _, h => h.1
  | _ + 1, _, _, _, _, _, h => h.1
theorem Ok.asc : {n a b : Nat} → {lo hi : Bd} → {t : Tr} → Ok n a b lo hi t → Asc t.ks
  | 0, _, _, _, _, _, h => h.2.1
  | _ + 1, _, _, _, _, _, h => h.2.1
theorem Ok.within : {n a b : Nat} → {lo hi : Bd} → {t : Tr} → Ok n a b lo hi t → Within lo hi t.ks
  | 0, _, _, _, _, _, h => h.2.2.1
  | _ + 1, _, _, _, _, _, h => h.2.2.1
theorem Ok.resize : {n a b a' b' : Nat} → {lo hi : Bd} → {t : Tr} → Ok n a b lo hi t → a' ≤ t.ks.length → t.ks.length ≤ b' → Ok n a' b' lo hi t
  | 0, _, _, _, _, _, _, _, h, h1, h2 => ⟨⟨h1, h2⟩, h.2⟩
  | _ + 1, _, _, _, _, _, _, _, h, h1, h2 => ⟨⟨h1, h2⟩, h.2⟩
theorem Ok.kids {n a b : Nat} {lo hi : Bd} {t : Tr} (h : Ok (n + 1) a b lo hi t) : t.cs.length = t.ks.length + 1 := chain_len _ _ _ h.2.2.2.2
theorem Ok.leaf : {n a b : Nat} → {lo hi : Bd} → {t : Tr} → Ok n a b lo hi t → (t.cs = [] ↔ n = 0)
  | 0, _, _, _, _, _, h => ⟨fun _ => rfl, fun _ => h.2.2.2.2⟩
  | n + 1, _, _, _, _, _, h => ⟨fun e => by have := h.kids; rw [e] at this; simp at this, fun e => by omega⟩

/-- Where the pairs of kids lie. -/
theorem pre_below {n : Nat} {P : Bd → Bd → Tr → Prop} (hP : ∀ lo hi t, P lo hi t → ∀ p ∈ prs n t, Ge lo p.1 ∧ Bel p.1 hi) : ∀ (lo : Bd) (ks : List Key) (cs : List Tr), Pre P lo ks cs → ∀ p ∈ cs.flatMap (prs n), ∃ k ∈ ks, p.1 < k
  | lo, [], [], _, p, hp => by simp at hp
  | lo, k :: ks, c :: cs, h, p, hp => by
    rw [List.flatMap_cons, List.mem_append] at hp
    rcases hp with hp | hp
    · exact ⟨k, by simp, bel_some.1 (hP _ _ _ h.1 p hp).2⟩
    · obtain ⟨x, hx, hl⟩ := pre_below hP _ _ _ h.2 p hp
      exact ⟨x, by simp [hx], hl⟩
  | lo, [], _ :: _, h, _, _ => h.elim
  | lo, _ :: _, [], h, _, _ => h.elim
theorem chain_above {n : Nat} {P : Bd → Bd → Tr → Prop} (hP : ∀ lo hi t, P lo hi t → ∀ p ∈ prs n t, Ge lo p.1 ∧ Bel p.1 hi) {hi : Bd} : ∀ (lo : Bd) (ks : List Key) (cs : List Tr), Chain P lo hi ks cs → ∀ p ∈ cs.flatMap (prs n), Ge lo p.1 ∨ ∃ k ∈ ks, k ≤ p.1
  | lo, [], [c], h, p, hp => .inl (hP _ _ _ h p (by simpa using hp)).1
  | lo, k :: ks, c :: cs, h, p, hp => by
    rw [List.flatMap_cons, List.mem_append] at hp
    rcases hp with hp | hp
    · exact .inl (hP _ _ _ h.1 p hp).1
    · rcases chain_above hP _ _ _ h.2 p hp with h1 | ⟨x, hx, hl⟩
      · exact .inr ⟨k, by simp, ge_some.1 h1⟩
      · exact .inr ⟨x, by simp [hx], hl⟩
  | lo, [], [], h, _, _ => h.elim
  | lo, [], _ :: _ :: _, h, _, _ => h.elim
  | lo, _ :: _, [], h, _, _ => h.elim
theorem post_above {n : Nat} {P : Bd → Bd → Tr → Prop} (hP : ∀ lo hi t, P lo hi t → ∀ p ∈ prs n t, Ge lo p.1 ∧ Bel p.1 hi) {hi : Bd} : ∀ (ks : List Key) (cs : List Tr), Post P hi ks cs → ∀ p ∈ cs.flatMap (prs n), ∃ k ∈ ks, k ≤ p.1
  | [], [], _, p, hp => by simp at hp
  | k :: ks, cs, h, p, hp => by
    rcases chain_above hP _ _ _ h p hp with h1 | ⟨x, hx, hl⟩
    · exact ⟨k, by simp, ge_some.1 h1⟩
    · exact ⟨x, by simp [hx], hl⟩
  | [], _ :: _, h, _, _ => h.elim
theorem chain_bel {n : Nat} {P : Bd → Bd → Tr → Prop} (hP : ∀ lo hi t, P lo hi t → ∀ p ∈ prs n t, Ge lo p.1 ∧ Bel p.1 hi) {hi : Bd} : ∀ (lo : Bd) (ks : List Key) (cs : List Tr), Chain P lo hi ks cs → ∀ p ∈ cs.flatMap (prs n), Bel p.1 hi ∨ ∃ k ∈ ks, p.1 < k
  | lo, [], [c], h, p, hp => .inl (hP _ _ _ h p (by simpa using hp)).2
  | lo, k :: ks, c :: cs, h, p, hp => by
    rw [List.flatMap_cons, List.mem_append] at hp
    rcases hp with hp | hp
    · exact .inr ⟨k, by simp, bel_some.1 (hP _ _ _ h.1 p hp).2⟩
    · rcases chain_bel hP _ _ _ h.2 p hp with h1 | ⟨x, hx, hl⟩
      · exact .inl h1
      · exact .inr ⟨x, by simp [hx], hl⟩
  | lo, [], [], h, _, _ => h.elim
  | lo, [], _ :: _ :: _, h, _, _ => h.elim
  | lo, _ :: _, [], h, _, _ => h.elim
theorem prs_in : ∀ (n : Nat) {a b : Nat} (lo hi : Bd) (t : Tr), Ok n a b lo hi t → ∀ p ∈ prs n t, Ge lo p.1 ∧ Bel p.1 hi
  | 0, a, b, lo, hi, t, h, p, hp => by
    obtain ⟨x, y⟩ := p
    exact h.2.2.1 x (List.of_mem_zip hp).1
  | n + 1, a, b, lo, hi, t, h, p, hp => by
    have ih := fun lo hi t (h : Ok n 2 4 lo hi t) => prs_in n lo hi t h
    refine ⟨?_, ?_⟩
    · rcases chain_above ih _ _ _ h.2.2.2.2 p hp with h1 | ⟨k, hk, hl⟩
      · exact h1
      · exact (h.2.2.1 k hk).1.trans hl
    · rcases chain_bel ih _ _ _ h.2.2.2.2 p hp with h1 | ⟨k, hk, hl⟩
      · exact h1
      · exact (h.2.2.1 k hk).2.trans hl
theorem chain_asc {n : Nat} {P : Bd → Bd → Tr → Prop} (hP : ∀ lo hi t, P lo hi t → ∀ p ∈ prs n t, Ge lo p.1 ∧ Bel p.1 hi) (hA : ∀ lo hi t, P lo hi t → Asc ((prs n t).map (·.1))) {hi : Bd} : ∀ (lo : Bd) (ks : List Key) (cs : List Tr), Asc ks → Chain P lo hi ks cs → Asc ((cs.flatMap (prs n)).map (·.1))
  | lo, [], [c], _, h => by simpa using hA _ _ _ h
  | lo, k :: ks, c :: cs, ha, h => by
    obtain ⟨h1, h2⟩ := asc_cons.1 ha
    rw [List.flatMap_cons, List.map_append, asc_append]
    refine ⟨hA _ _ _ h.1, chain_asc hP hA _ _ _ h2 h.2, fun x hx y hy => ?_⟩
    obtain ⟨p, hp, rfl⟩ := List.mem_map.1 hx
    obtain ⟨q, hq, rfl⟩ := List.mem_map.1 hy
    have a1 := bel_some.1 (hP _ _ _ h.1 p hp).2
    rcases chain_above hP _ _ _ h.2 q hq with h3 | ⟨z, hz, hl⟩
    · have := ge_some.1 h3; grind
    · have := h1 z hz; grind
  | lo, [], [], _, h => h.elim
  | lo, [], _ :: _ :: _, _, h => h.elim
  | lo, _ :: _, [], _, h => h.elim
theorem map_zip_fst : ∀ (ks vs : List Key), vs.length = ks.length → (ks.zip vs).map (·.1) = ks
  | [], _, _ => rfl
  | k :: ks, v :: vs, h => by simp [map_zip_fst ks vs (by simpa using h)]
theorem prs_asc : ∀ (n : Nat) {a b : Nat} (lo hi : Bd) (t : Tr), Ok n a b lo hi t → Asc ((prs n t).map (·.1))
  | 0, a, b, lo, hi, t, h => by
    have := map_zip_fst t.ks t.vs h.2.2.2.1
    unfold prs
    rw [this]; exact h.2.1
  | n + 1, a, b, lo, hi, t, h => chain_asc (fun lo hi t h => prs_in n lo hi t h) (fun lo hi t h => prs_asc n lo hi t h) _ _ _ h.2.1 h.2.2.2.2

/-- One that is too wide, cut in two. -/
def mid (t : Tr) : Nat := t.ks.length / 2
def cutL (t : Tr) : Tr := .mk (t.ks.take (mid t)) (t.vs.take (mid t)) (t.cs.take (mid t + 1))
def cutK (t : Tr) : Key := t.ks.getD (mid t) noKey
def cutR (t : Tr) : Tr := if t.cs.isEmpty = true then .mk (t.ks.drop (mid t)) (t.vs.drop (mid t)) [] else .mk (t.ks.drop (mid t + 1)) [] (t.cs.drop (mid t + 1))
theorem drop_mid {l : List Key} {m : Nat} (h : m < l.length) : l.drop m = l[m] :: l.drop (m + 1) := List.drop_eq_getElem_cons h
theorem take_lt {l : List Key} (hs : Asc l) {m : Nat} (hm : m < l.length) : ∀ x ∈ l.take m, x < l[m] := by
  intro x hx
  obtain ⟨i, hi, rfl⟩ := List.getElem_of_mem hx
  rw [List.getElem_take]
  exact hs.get (by simp at hi; omega) hm
theorem drop_gt {l : List Key} (hs : Asc l) {m : Nat} (hm : m < l.length) : ∀ x ∈ l.drop (m + 1), l[m] < x := by
  intro x hx
  obtain ⟨i, hi, rfl⟩ := List.getElem_of_mem hx
  rw [List.getElem_drop]
  exact hs.get (by omega) (by simp at hi; omega)
theorem cut_ok {n : Nat} {lo hi : Bd} {t : Tr} (h : Ok n 5 6 lo hi t) :
    Ok n 2 4 lo (some (cutK t)) (cutL t) ∧ Ok n 2 4 (some (cutK t)) hi (cutR t) ∧ prs n t = prs n (cutL t) ++ prs n (cutR t) ∧ Gt lo (cutK t) ∧ Bel (cutK t) hi := by
  obtain ⟨l1, l2⟩ := h.len
  have hm : mid t < t.ks.length := by unfold mid; omega
  have hm2 : 2 ≤ mid t ∧ mid t ≤ 3 ∧ mid t = t.ks.length / 2 := by unfold mid; omega
  have hK : cutK t = t.ks[mid t] := by unfold cutK; rw [List.getD_eq_getElem?_getD, List.getElem?_eq_getElem hm]; rfl
  have hA := h.asc
  have hW := h.within
  have hlo : Gt lo (cutK t) := by
    rw [hK]
    exact ((hW t.ks[0] (List.getElem_mem _)).1).lt (hA.get (by omega) hm)
  have hhi : Bel (cutK t) hi := by rw [hK]; exact (hW _ (List.getElem_mem _)).2
  have hWl : Within lo (some (cutK t)) (t.ks.take (mid t)) := fun k hk => ⟨(hW k (List.mem_of_mem_take hk)).1, bel_some.2 (by rw [hK]; exact take_lt hA hm k hk)⟩
  cases n with
  | zero =>
    obtain ⟨_, _, _, hv, hc⟩ := h
    have hR : cutR t = .mk (t.ks.drop (mid t)) (t.vs.drop (mid t)) [] := by unfold cutR; rw [hc]; rfl
    rw [hR]
    refine ⟨⟨⟨by simp [cutL]; omega, by simp [cutL]; omega⟩, hA.take _, hWl, by simp [cutL]; omega, by simp [cutL, hc]⟩, ⟨⟨by simp; omega, by simp; omega⟩, hA.drop _, fun k hk => ?_, by simp; omega, rfl⟩, ?_, hlo, hhi⟩
    · refine ⟨ge_some.2 ?_, (hW k (List.mem_of_mem_drop hk)).2⟩
      have hk' : k ∈ t.ks.drop (mid t) := hk
      rw [drop_mid hm] at hk'
      rcases List.mem_cons.1 hk' with rfl | hk'
      · rw [hK]; exact Std.IsPreorder.le_refl _
      · have := drop_gt hA hm k hk'; rw [hK]; grind
    · show t.ks.zip t.vs = (t.ks.take (mid t)).zip (t.vs.take (mid t)) ++ (t.ks.drop (mid t)).zip (t.vs.drop (mid t))
      rw [← List.zip_append (by simp; omega), List.take_append_drop, List.take_append_drop]
  | succ n =>
    obtain ⟨_, _, _, hv, hc⟩ := h
    have hl := chain_len _ _ _ hc
    have hne : t.cs.isEmpty = false := by
      cases he : t.cs with
      | nil => rw [he] at hl; simp at hl
      | cons _ _ => rfl
    have hR : cutR t = .mk (t.ks.drop (mid t + 1)) [] (t.cs.drop (mid t + 1)) := by unfold cutR; rw [hne]; rfl
    have hc' := hc
    rw [← List.take_append_drop (mid t) t.ks, drop_mid hm, ← List.take_append_drop (mid t + 1) t.cs, chain_cut _ _ _ (by simp; omega)] at hc'
    rw [hR]
    refine ⟨⟨⟨by simp [cutL]; omega, by simp [cutL]; omega⟩, hA.take _, hWl, by simp [cutL, hv], by rw [hK]; exact hc'.1⟩, ⟨⟨by simp; omega, by simp; omega⟩, hA.drop _, fun k hk => ?_, rfl, by rw [hK]; exact hc'.2⟩, ?_, hlo, hhi⟩
    · refine ⟨ge_some.2 ?_, (hW k (List.mem_of_mem_drop hk)).2⟩
      have := drop_gt hA hm k hk; rw [hK]; grind
    · show t.cs.flatMap (prs n) = (t.cs.take (mid t + 1)).flatMap (prs n) ++ (t.cs.drop (mid t + 1)).flatMap (prs n)
      rw [← List.flatMap_append, List.take_append_drop]

/-- Two kids made of the one at place i. -/
def splitT (t : Tr) (i : Nat) : Tr :=
  match t.cs[i]? with
  | none => t
  | some c => .mk (ins1 t.ks i (cutK c)) t.vs (ins1 (t.cs.set i (cutL c)) (i + 1) (cutR c))
theorem ins1_at {α : Type} (a b : List α) (x y : α) : ins1 (a ++ x :: b) (a.length + 1) y = a ++ x :: y :: b := by
  unfold ins1
  rw [List.take_append, List.drop_append, List.take_of_length_le (by omega), List.drop_of_length_le (l := a) (by omega)]
  simp
theorem ins1_in {α : Type} (a b : List α) (y : α) : ins1 (a ++ b) a.length y = a ++ y :: b := by
  unfold ins1
  simp
theorem set_at {α : Type} (a b : List α) (x y : α) : (a ++ x :: b).set a.length y = a ++ y :: b := by
  simp
/-- How the kids of a node stand about one of them. -/
structure About (n : Nat) (lo hi : Bd) (t : Tr) (ks1 ks2 : List Key) (cs1 : List Tr) (c : Tr) (cs2 : List Tr) : Prop where
  ks : t.ks = ks1 ++ ks2
  vs : t.vs = []
  cs : t.cs = cs1 ++ c :: cs2
  len : cs1.length = ks1.length
  asc : Asc t.ks
  win : Within lo hi t.ks
  pre : Pre (Ok n 2 4) lo ks1 cs1
  post : Post (Ok n 2 4) hi ks2 cs2
theorem Ok.about {n a b : Nat} {lo hi : Bd} {t : Tr} (h : Ok (n + 1) a b lo hi t) {i : Nat} (hi' : i ≤ t.ks.length) :
    ∃ c, t.cs[i]? = some c ∧ About n lo hi t (t.ks.take i) (t.ks.drop i) (t.cs.take i) c (t.cs.drop (i + 1)) ∧ Ok n 2 4 (lst lo (t.ks.take i)) (hed hi (t.ks.drop i)) c := by
  have hl := h.kids
  have hlt : i < t.cs.length := by omega
  have hcs : t.cs = t.cs.take i ++ t.cs[i] :: t.cs.drop (i + 1) := by rw [← List.drop_eq_getElem_cons hlt, List.take_append_drop]
  have hks : t.ks = t.ks.take i ++ t.ks.drop i := (List.take_append_drop i t.ks).symm
  have hc := h.2.2.2.2
  generalize hcx : t.cs[i] = c at hcs
  have hlen : (t.cs.take i).length = (t.ks.take i).length := by simp; omega
  have hc' : Chain (Ok n 2 4) lo hi (t.ks.take i ++ t.ks.drop i) (t.cs.take i ++ c :: t.cs.drop (i + 1)) := by rw [← hks, ← hcs]; exact hc
  obtain ⟨h1, h2, h3⟩ := (chain_at _ _ _ hlen).1 hc'
  exact ⟨c, by rw [← hcx]; exact List.getElem?_eq_getElem hlt, ⟨hks, h.2.2.2.1, hcs, hlen, h.2.1, h.2.2.1, h1, h3⟩, h2⟩
theorem About.at_ {n : Nat} {lo hi : Bd} {t : Tr} {ks1 ks2 : List Key} {cs1 : List Tr} {c : Tr} {cs2 : List Tr} (h : About n lo hi t ks1 ks2 cs1 c cs2) : t.cs[ks1.length]? = some c := by
  rw [h.cs, ← h.len]; simp
/-- Another kid in its place. -/
theorem About.swap {n : Nat} {lo hi : Bd} {t : Tr} {ks1 ks2 : List Key} {cs1 : List Tr} {c : Tr} {cs2 : List Tr} (h : About n lo hi t ks1 ks2 cs1 c cs2) (c' : Tr) : About n lo hi (.mk t.ks t.vs (t.cs.set ks1.length c')) ks1 ks2 cs1 c' cs2 :=
  ⟨h.ks, h.vs, by rw [Tr.cs_mk, h.cs, ← h.len, set_at], h.len, h.asc, h.win, h.pre, h.post⟩
theorem About.ok {n a b : Nat} {lo hi : Bd} {t : Tr} {ks1 ks2 : List Key} {cs1 : List Tr} {c : Tr} {cs2 : List Tr} (h : About n lo hi t ks1 ks2 cs1 c cs2) (hc : Ok n 2 4 (lst lo ks1) (hed hi ks2) c) (ha : a ≤ t.ks.length) (hb : t.ks.length ≤ b) : Ok (n + 1) a b lo hi t :=
  ⟨⟨ha, hb⟩, h.asc, h.win, h.vs, by rw [h.ks, h.cs]; exact (chain_at _ _ _ h.len).2 ⟨h.pre, hc, h.post⟩⟩
theorem lst_lt {P : Key → Prop} : ∀ {lo : Bd} {ks : List Key}, (∀ k ∈ ks, P k) → (∀ k, lo = some k → P k) → ∀ k, lst lo ks = some k → P k
  | lo, [], _, h, k, e => h k e
  | lo, x :: ks, h1, _, k, e => lst_lt (fun k hk => h1 k (by simp [hk])) (fun k e => Option.some.inj e ▸ h1 x (by simp)) k e
theorem lst_mem {lo : Bd} {ks : List Key} {k : Key} (hk : k ∈ ks) (hs : Asc ks) : ∃ l, lst lo ks = some l ∧ k ≤ l := by
  induction ks generalizing lo k with
  | nil => simp at hk
  | cons x ks ih =>
    obtain ⟨h1, h2⟩ := asc_cons.1 hs
    cases ks with
    | nil =>
      simp at hk
      subst hk
      exact ⟨k, rfl, Std.IsPreorder.le_refl _⟩
    | cons y ks =>
      rcases List.mem_cons.1 hk with rfl | hk
      · obtain ⟨l, e, hl⟩ := ih (lo := some k) (k := y) (by simp) h2
        exact ⟨l, e, by have := h1 y (by simp); grind⟩
      · obtain ⟨l, e, hl⟩ := ih (lo := some x) hk h2
        exact ⟨l, e, hl⟩
theorem hed_mem {hi : Bd} {ks : List Key} {k : Key} (hk : k ∈ ks) (hs : Asc ks) : ∃ l, hed hi ks = some l ∧ l ≤ k := by
  cases ks with
  | nil => simp at hk
  | cons x ks =>
    obtain ⟨h1, h2⟩ := asc_cons.1 hs
    refine ⟨x, rfl, ?_⟩
    rcases List.mem_cons.1 hk with rfl | hk
    · exact Std.IsPreorder.le_refl _
    · have := h1 k hk; grind
theorem About.split {n a b : Nat} {lo hi : Bd} {t : Tr} {ks1 ks2 : List Key} {cs1 : List Tr} {c : Tr} {cs2 : List Tr} (h : About n lo hi t ks1 ks2 cs1 c cs2) (hc : Ok n 5 6 (lst lo ks1) (hed hi ks2) c) (hlo : ∀ k ∈ ks1, Ge lo k) (ha : a ≤ t.ks.length + 1) (hb : t.ks.length + 1 ≤ b) :
    Ok (n + 1) a b lo hi (splitT t ks1.length) ∧ prs (n + 1) (splitT t ks1.length) = prs (n + 1) t ∧ (splitT t ks1.length).ks.length = t.ks.length + 1 := by
  obtain ⟨c1, c2, c3, c4, c5⟩ := cut_ok hc
  have e : splitT t ks1.length = .mk (ks1 ++ cutK c :: ks2) t.vs (cs1 ++ cutL c :: cutR c :: cs2) := by
    unfold splitT
    rw [h.at_]
    show Tr.mk (ins1 t.ks ks1.length (cutK c)) t.vs (ins1 (t.cs.set ks1.length (cutL c)) (ks1.length + 1) (cutR c)) = _
    rw [h.ks, ins1_in, h.cs, ← h.len, set_at, ins1_at]
  rw [e]
  have ha' := h.asc
  rw [h.ks, asc_append] at ha'
  obtain ⟨a1, a2, a3⟩ := ha'
  have b1 : ∀ k ∈ ks1, k < cutK c := fun k hk => by
    obtain ⟨l, e, hl⟩ := lst_mem (lo := lo) hk a1
    have := c4 l e
    grind
  have b2 : ∀ k ∈ ks2, cutK c < k := fun k hk => by
    obtain ⟨l, e, hl⟩ := hed_mem (hi := hi) hk a2
    have := c5 l e
    grind
  have hw := h.win
  rw [h.ks] at hw
  have g1 : Ge lo (cutK c) := by
    cases hk : ks1 with
    | nil => rw [hk] at c4; exact c4.ge
    | cons x r =>
      have := (hw x (by simp [hk])).1
      exact this.trans (by have := b1 x (by simp [hk]); grind)
  have g2 : Bel (cutK c) hi := by
    cases hk : ks2 with
    | nil => rw [hk] at c5; exact c5
    | cons x r => exact ((hw x (by simp [hk])).2).trans (b2 x (by simp [hk]))
  refine ⟨⟨⟨?_, ?_⟩, ?_, ?_, h.vs, ?_⟩, ?_, ?_⟩
  · rw [h.ks] at ha; simp at *; omega
  · rw [h.ks] at hb; simp at *; omega
  · show Asc (ks1 ++ cutK c :: ks2)
    rw [asc_append, asc_cons]
    exact ⟨a1, ⟨b2, a2⟩, fun x hx y hy => by
      rcases List.mem_cons.1 hy with rfl | hy
      · exact b1 x hx
      · exact a3 x hx y hy⟩
  · intro k hk
    have hk' : k ∈ ks1 ++ cutK c :: ks2 := hk
    rw [List.mem_append, List.mem_cons] at hk'
    rcases hk' with hk' | rfl | hk'
    · exact hw k (by simp [hk'])
    · exact ⟨g1, g2⟩
    · exact hw k (by simp [hk'])
  · show Chain _ lo hi (ks1 ++ cutK c :: ks2) (cs1 ++ cutL c :: cutR c :: cs2)
    rw [chain_at _ _ _ h.len]
    refine ⟨h.pre, c1, ?_⟩
    show Chain _ (some (cutK c)) hi ([] ++ ks2) ([] ++ cutR c :: cs2)
    rw [chain_at _ [] [] rfl]
    exact ⟨trivial, c2, h.post⟩
  · rw [prs_succ, prs_succ, h.cs, Tr.cs_mk]
    simp [c3]
  · rw [h.ks]; simp; omega

/-- What a put makes of a tree; it may leave the root with one key too many. -/
def putT : Nat → Tr → Key → Key → Tr
  | 0, t, k, v => .mk (putK t.ks k) (putV t.ks t.vs k v) t.cs
  | n + 1, t, k, v =>
    match t.cs[tow t.ks k]? with
    | none => t
    | some c =>
      if 4 < (putT n c k v).ks.length then splitT (.mk t.ks t.vs (t.cs.set (tow t.ks k) (putT n c k v))) (tow t.ks k)
      else .mk t.ks t.vs (t.cs.set (tow t.ks k) (putT n c k v))
theorem tow_split {l : List Key} (hs : Asc l) (x : Key) : (∀ k ∈ l.take (tow l x), k ≤ x) ∧ (∀ k ∈ l.drop (tow l x), x < k) := by
  refine ⟨fun k hk => ?_, fun k hk => ?_⟩
  · obtain ⟨i, hi, rfl⟩ := List.getElem_of_mem hk
    rw [List.getElem_take]
    exact tow_below (by simp at hi; omega)
  · obtain ⟨i, hi, rfl⟩ := List.getElem_of_mem hk
    rw [List.getElem_drop]
    exact tow_above hs (by omega) (by simp at hi; omega)
theorem hed_bel {hi : Bd} {ks : List Key} {k : Key} (h : ∀ x ∈ ks, k < x) (hh : Bel k hi) : Bel k (hed hi ks) := by
  cases ks with
  | nil => exact hh
  | cons x ks => exact bel_some.2 (h x (by simp))
theorem lst_ge {lo : Bd} {ks : List Key} {k : Key} (h : ∀ x ∈ ks, x ≤ k) (hh : Ge lo k) : Ge (lst lo ks) k := fun l e => lst_lt (P := fun l => l ≤ k) h hh l e
theorem set_len {α : Type} (l : List α) (i : Nat) (x : α) : (l.set i x).length = l.length := by simp
theorem put_ok : ∀ (n : Nat) {a : Nat} {lo hi : Bd} {t : Tr} (h : Ok n a 4 lo hi t) (k v : Key) (h1 : Ge lo k) (h2 : Bel k hi) (h0 : n = 0 ∨ 1 ≤ a),
    Ok n a 5 lo hi (putT n t k v) ∧ prs n (putT n t k v) = aft k v false (prs n t) ∧ t.ks.length ≤ (putT n t k v).ks.length ∧ 1 ≤ (putT n t k v).ks.length
  | 0, a, lo, hi, t, h, k, v, h1, h2, _ => by
    obtain ⟨⟨l1, l2⟩, hA, hW, hv, hc⟩ := h
    obtain ⟨p1, p2⟩ := putK_len t.ks k
    have p3 : 1 ≤ (putK t.ks k).length := List.length_pos_of_mem (mem_putK.2 (.inl rfl))
    refine ⟨⟨⟨by simp [putT]; omega, by simp [putT]; omega⟩, asc_putK hA, fun x hx => ?_, putV_len hA hv, hc⟩, put_zip k v _ _ hA hv, p1, p3⟩
    rcases mem_putK.1 hx with rfl | hx
    · exact ⟨h1, h2⟩
    · exact hW x hx
  | n + 1, a, lo, hi, t, h, k, v, h1, h2, h0 => by
    obtain ⟨c, e, hab, hc⟩ := h.about (tow_le t.ks k)
    obtain ⟨t1, t2⟩ := tow_split h.asc k
    have hlen : (t.ks.take (tow t.ks k)).length = tow t.ks k := by have := tow_le t.ks k; simp; omega
    obtain ⟨i1, i2, i3, i4⟩ := put_ok n hc k v (lst_ge t1 h1) (hed_bel t2 h2) (.inr (by omega))
    have hsw := hab.swap (putT n c k v)
    rw [hlen] at hsw
    have hp : prs (n + 1) (.mk t.ks t.vs (t.cs.set (tow t.ks k) (putT n c k v))) = aft k v false (prs (n + 1) t) := by
      have e1 := hab.cs
      have e2 := hsw.cs
      have e3 := hab.pre
      have e4 := hab.post
      rw [prs_succ, prs_succ, e2]
      clear hsw e2
      generalize List.take (tow t.ks k) t.cs = cs1 at e1 e3
      generalize List.drop (tow t.ks k + 1) t.cs = cs2 at e1 e4
      rw [e1]
      simp only [List.flatMap_append, List.flatMap_cons]
      rw [aft_ahead, aft_behind, i2]
      · intro p hp
        obtain ⟨x, hx, hl⟩ := post_above (fun lo hi t h => prs_in n lo hi t h) _ _ e4 p hp
        have := t2 x hx; grind
      · intro p hp
        obtain ⟨x, hx, hl⟩ := pre_below (fun lo hi t h => prs_in n lo hi t h) _ _ _ e3 p hp
        have := t1 x hx; grind
    obtain ⟨l1, l2⟩ := h.len
    obtain ⟨l3, l4⟩ := hc.len
    unfold putT
    rw [e]
    show Ok (n + 1) a 5 lo hi (if _ then _ else _) ∧ _
    obtain ⟨l5, l6⟩ := i1.len
    by_cases hw : 4 < (putT n c k v).ks.length
    · have hs := hsw.split (a := a) (b := 5) (i1.resize (by omega) (by omega)) (fun x hx => (h.within x (List.mem_of_mem_take hx)).1) (by simp; omega) (by simp; omega)
      rw [hlen] at hs
      simp only [if_pos hw]
      exact ⟨hs.1, hs.2.1.trans hp, by rw [hs.2.2]; simp, by rw [hs.2.2]; simp⟩
    · have hs := hsw.ok (a := a) (b := 5) (i1.resize (by omega) (by omega)) (by simp; omega) (by simp; omega)
      simp only [if_neg hw]
      refine ⟨hs, hp, by simp, ?_⟩
      show 1 ≤ t.ks.length
      omega
end Go.Proofs.Ytkpjkglheegmgaa
/- What a taking away makes of a tree; what stands above all then: plain mathematics. Conditions: none. -/
namespace Go.Proofs.Ytkpjkglheegmgaa
set_option linter.unusedSimpArgs false
set_option linter.unusedVariables false

/-- Two kids made one, k between them. -/
def mergeT (l : Tr) (k : Key) (r : Tr) : Tr := .mk (l.ks ++ ((if l.cs.isEmpty = true then [] else [k]) ++ r.ks)) (l.vs ++ r.vs) (l.cs ++ r.cs)
theorem merge_ok {n : Nat} {lo hi : Bd} {l r : Tr} {k : Key} (hl : Ok n 1 4 lo (some k) l) (hr : Ok n 1 4 (some k) hi r) (h3 : 3 ≤ l.ks.length + r.ks.length) (h5 : l.ks.length + r.ks.length ≤ 5) :
    Ok n 3 6 lo hi (mergeT l k r) ∧ prs n (mergeT l k r) = prs n l ++ prs n r := by
  have wl := hl.within
  have wr := hr.within
  have al := hl.asc
  have ar := hr.asc
  have ll := hl.len
  have lr := hr.len
  have bl : ∀ x ∈ l.ks, x < k := fun x hx => bel_some.1 (wl x hx).2
  have br : ∀ x ∈ r.ks, k ≤ x := fun x hx => ge_some.1 (wr x hx).1
  have gk : Ge lo k := by
    have hx : l.ks[0]'(by omega) ∈ l.ks := List.getElem_mem _
    exact (wl _ hx).1.trans (by have := bl _ hx; grind)
  have wl' : ∀ x ∈ l.ks, Ge lo x ∧ Bel x hi := fun x hx => by
    have hy : r.ks[0]'(by omega) ∈ r.ks := List.getElem_mem _
    exact ⟨(wl x hx).1, (wr _ hy).2.trans (by have := bl x hx; have := br _ hy; grind)⟩
  have wr' : ∀ x ∈ r.ks, Ge lo x ∧ Bel x hi := fun x hx => ⟨gk.trans (br x hx), (wr x hx).2⟩
  cases n with
  | zero =>
    obtain ⟨_, _, _, v1, c1⟩ := hl
    obtain ⟨_, _, _, v2, c2⟩ := hr
    have e : mergeT l k r = .mk (l.ks ++ r.ks) (l.vs ++ r.vs) [] := by unfold mergeT; rw [c1, c2]; rfl
    rw [e]
    refine ⟨⟨⟨by simp; omega, by simp; omega⟩, ?_, ?_, by simp [v1, v2], rfl⟩, ?_⟩
    · show Asc (l.ks ++ r.ks)
      rw [asc_append]
      exact ⟨al, ar, fun x hx y hy => by have := bl x hx; have := br y hy; grind⟩
    · intro x hx
      rcases List.mem_append.1 hx with hx | hx
      · exact wl' x hx
      · exact wr' x hx
    · show (l.ks ++ r.ks).zip (l.vs ++ r.vs) = _
      rw [List.zip_append v1.symm]; rfl
  | succ n =>
    obtain ⟨_, _, _, v1, c1⟩ := hl
    obtain ⟨_, _, _, v2, c2⟩ := hr
    have k1 := chain_len _ _ _ c1
    have hne : l.cs.isEmpty = false := by
      cases he : l.cs with
      | nil => rw [he] at k1; simp at k1
      | cons _ _ => rfl
    have hk2 : ∀ x ∈ r.ks, k < x := fun x hx => by
      have k2 := chain_len _ _ _ c2
      match hcs : r.cs, hks : r.ks with
      | [], _ => rw [hcs] at k2; simp at k2
      | c :: cs, [] => rw [hks] at hx; simp at hx
      | c :: cs, y :: ys =>
        rw [hcs, hks] at c2
        have hc := c2.1
        have hcl := hc.len
        have hm : c.ks[0]'(by omega) ∈ c.ks := List.getElem_mem _
        have h1 := ge_some.1 (hc.within _ hm).1
        have h2 := bel_some.1 (hc.within _ hm).2
        rw [hks] at hx ar
        rcases List.mem_cons.1 hx with rfl | hx
        · grind
        · have := (asc_cons.1 ar).1 x hx; grind
    have e : mergeT l k r = .mk (l.ks ++ k :: r.ks) [] (l.cs ++ r.cs) := by unfold mergeT; rw [hne, v1, v2]; rfl
    rw [e]
    refine ⟨⟨⟨by simp; omega, by simp; omega⟩, ?_, ?_, rfl, ?_⟩, ?_⟩
    · show Asc (l.ks ++ k :: r.ks)
      rw [asc_append, asc_cons]
      exact ⟨al, ⟨hk2, ar⟩, fun x hx y hy => by
        rcases List.mem_cons.1 hy with rfl | hy
        · exact bl x hx
        · have := bl x hx; have := br y hy; grind⟩
    · intro x hx
      have hx' : x ∈ l.ks ++ k :: r.ks := hx
      rw [List.mem_append, List.mem_cons] at hx'
      rcases hx' with hx | rfl | hx
      · exact wl' x hx
      · refine ⟨gk, ?_⟩
        have hy : r.ks[0]'(by omega) ∈ r.ks := List.getElem_mem _
        exact (wr _ hy).2.trans (hk2 _ hy)
      · exact wr' x hx
    · show Chain _ lo hi (l.ks ++ k :: r.ks) (l.cs ++ r.cs)
      exact (chain_cut _ _ _ k1).2 ⟨c1, c2⟩
    · show (l.cs ++ r.cs).flatMap (prs n) = _
      rw [List.flatMap_append]; rfl

/-- One kid made of two, the second one's place i + 1; of one that then is too wide, two again. -/
def refillT (t : Tr) (i0 : Nat) : Tr :=
  match t.cs[min i0 (t.cs.length - 2)]?, t.cs[min i0 (t.cs.length - 2) + 1]? with
  | some l, some r =>
    if 4 < (mergeT l (t.ks.getD (min i0 (t.cs.length - 2)) noKey) r).ks.length then
      splitT (.mk (rem1 t.ks (min i0 (t.cs.length - 2))) t.vs (rem1 (t.cs.set (min i0 (t.cs.length - 2)) (mergeT l (t.ks.getD (min i0 (t.cs.length - 2)) noKey) r)) (min i0 (t.cs.length - 2) + 1))) (min i0 (t.cs.length - 2))
    else .mk (rem1 t.ks (min i0 (t.cs.length - 2))) t.vs (rem1 (t.cs.set (min i0 (t.cs.length - 2)) (mergeT l (t.ks.getD (min i0 (t.cs.length - 2)) noKey) r)) (min i0 (t.cs.length - 2) + 1))
  | _, _ => t
theorem rem1_at {α : Type} (a b : List α) (x y : α) : rem1 (a ++ x :: y :: b) (a.length + 1) = a ++ x :: b := by
  unfold rem1
  rw [List.take_append, List.drop_append, List.take_of_length_le (by omega), List.drop_of_length_le (l := a) (by omega)]
  have e1 : a.length + 1 - a.length = 1 := by omega
  have e2 : a.length + 1 + 1 - a.length = 2 := by omega
  rw [e1, e2]
  simp
theorem rem1_in {α : Type} (a b : List α) (y : α) : rem1 (a ++ y :: b) a.length = a ++ b := by
  unfold rem1
  rw [List.take_append, List.drop_append, List.take_of_length_le (by omega), List.drop_of_length_le (l := a) (by omega)]
  simp
theorem refill_two {n a : Nat} {lo hi : Bd} {t : Tr} {ks1 : List Key} {k : Key} {ks2 : List Key} {cs1 : List Tr} {l r : Tr} {cs2 : List Tr} {i0 : Nat} (hks : t.ks = ks1 ++ k :: ks2) (hcs : t.cs = cs1 ++ l :: r :: cs2) (hv : t.vs = []) (hlen : cs1.length = ks1.length) (hi0 : min i0 (t.cs.length - 2) = ks1.length)
    (ha : Asc t.ks) (hw : Within lo hi t.ks) (hpre : Pre (Ok n 2 4) lo ks1 cs1) (hpost : Post (Ok n 2 4) hi ks2 cs2) (hl : Ok n 1 4 (lst lo ks1) (some k) l) (hr : Ok n 1 4 (some k) (hed hi ks2) r) (h3 : 3 ≤ l.ks.length + r.ks.length) (h5 : l.ks.length + r.ks.length ≤ 5) (hla : a ≤ t.ks.length - 1) (hlb : t.ks.length ≤ 4) :
    Ok (n + 1) a 4 lo hi (refillT t i0) ∧ prs (n + 1) (refillT t i0) = prs (n + 1) t ∧ t.ks.length - 1 ≤ (refillT t i0).ks.length := by
  obtain ⟨m1, m2⟩ := merge_ok hl hr h3 h5
  have e1 : t.cs[ks1.length]? = some l := by rw [hcs, ← hlen]; simp
  have e2 : t.cs[ks1.length + 1]? = some r := by rw [hcs, ← hlen, List.getElem?_append_right (by omega)]; simp
  have e3 : t.ks.getD ks1.length noKey = k := by rw [hks]; simp
  have e4 : rem1 t.ks ks1.length = ks1 ++ ks2 := by rw [hks, rem1_in]
  have e5 : rem1 (t.cs.set ks1.length (mergeT l k r)) (ks1.length + 1) = cs1 ++ mergeT l k r :: cs2 := by rw [hcs, ← hlen, set_at, rem1_at]
  have hA : Asc (ks1 ++ ks2) := by
    rw [hks] at ha
    exact List.Pairwise.sublist (List.Sublist.append (List.Sublist.refl _) (List.sublist_cons_self _ _)) ha
  have hW : Within lo hi (ks1 ++ ks2) := fun x hx => hw x (by
    rw [hks]
    rcases List.mem_append.1 hx with h | h <;> simp [h])
  have hab : About n lo hi (.mk (ks1 ++ ks2) t.vs (cs1 ++ mergeT l k r :: cs2)) ks1 ks2 cs1 (mergeT l k r) cs2 := ⟨rfl, hv, rfl, hlen, hA, hW, hpre, hpost⟩
  have hp : prs (n + 1) (.mk (ks1 ++ ks2) t.vs (cs1 ++ mergeT l k r :: cs2)) = prs (n + 1) t := by
    rw [prs_succ, prs_succ, hcs]
    simp [m2]
  have hn : t.ks.length = (ks1 ++ ks2).length + 1 := by rw [hks]; simp; omega
  have hml := m1.len
  unfold refillT
  rw [hi0, e1, e2]
  dsimp only
  rw [e3, e4, e5]
  by_cases hbig : 4 < (mergeT l k r).ks.length
  · have hs := hab.split (a := a) (b := 4) (m1.resize (by omega) (by omega)) (fun x hx => (hW x (by simp [hx])).1) (by simp at *; omega) (by simp at *; omega)
    rw [if_pos hbig]
    exact ⟨hs.1, hs.2.1.trans hp, by rw [hs.2.2]; simp at *; omega⟩
  · have hs := hab.ok (a := a) (b := 4) (m1.resize (by omega) (by omega)) (by simp at *; omega) (by simp at *; omega)
    rw [if_neg hbig]
    exact ⟨hs, hp, by simp at *; omega⟩
theorem pre_snoc {P : Bd → Bd → Tr → Prop} {k : Key} {c : Tr} : ∀ (lo : Bd) (ks : List Key) (cs : List Tr), cs.length = ks.length → (Pre P lo (ks ++ [k]) (cs ++ [c]) ↔ Pre P lo ks cs ∧ P (lst lo ks) (some k) c)
  | lo, [], [], _ => by simp [Pre, lst]
  | lo, x :: ks, y :: cs, h => by
    have ih := pre_snoc (P := P) (k := k) (c := c) (some x) ks cs (by simpa using h)
    simp only [List.cons_append, Pre, lst]
    rw [ih, and_assoc]
  | lo, [], _ :: _, h => by simp at h
  | lo, _ :: _, [], h => by simp at h
theorem lst_snoc (k : Key) : ∀ (lo : Bd) (ks : List Key), lst lo (ks ++ [k]) = some k
  | _, [] => rfl
  | _, x :: ks => by rw [List.cons_append, lst, lst_snoc k _ ks]
theorem refill_ok {n a : Nat} {lo hi : Bd} {t : Tr} {ks1 ks2 : List Key} {cs1 : List Tr} {c : Tr} {cs2 : List Tr} (h : About n lo hi t ks1 ks2 cs1 c cs2) (hc : Ok n 1 4 (lst lo ks1) (hed hi ks2) c) (h1 : c.ks.length < 2) (hcl : t.cs.length = t.ks.length + 1) (hk : 1 ≤ t.ks.length) (hla : a ≤ t.ks.length - 1) (hlb : t.ks.length ≤ 4) :
    Ok (n + 1) a 4 lo hi (refillT t ks1.length) ∧ prs (n + 1) (refillT t ks1.length) = prs (n + 1) t ∧ t.ks.length - 1 ≤ (refillT t ks1.length).ks.length := by
  have hl := hc.len
  have hcs := h.cs
  have hks := h.ks
  have h1l := congrArg List.length hcs
  have h2l := congrArg List.length hks
  simp at h1l h2l
  have hlen := h.len
  match hks2 : ks2, hcs2 : cs2 with
  | k :: ks2', r :: cs2' =>
    have hp := h.post
    have hp' : Chain (Ok n 2 4) (some k) hi ([] ++ ks2') ([] ++ r :: cs2') := hp
    rw [chain_at _ [] [] rfl] at hp'
    obtain ⟨_, hr, hpo⟩ := hp'
    have hrl := hr.len
    simp at h1l h2l
    exact refill_two (a := a) (ks1 := ks1) (k := k) (ks2 := ks2') (cs1 := cs1) (l := c) (r := r) (cs2 := cs2') hks hcs h.vs hlen (by omega) h.asc h.win h.pre hpo hc (Ok.resize hr (by have : Ok n 2 4 (some k) (hed hi ks2') r := hr; omega) (by omega)) (by omega) (by omega) hla hlb
  | [], [] =>
    simp at h1l h2l
    have hne : ks1 ≠ [] := fun e => by rw [hks, e] at hk; simp at hk
    have hne' : cs1 ≠ [] := fun e => by rw [e] at hlen; simp at hlen; exact hne (List.eq_nil_of_length_eq_zero hlen.symm)
    have q1 := (List.dropLast_concat_getLast hne).symm
    have q2 := (List.dropLast_concat_getLast hne').symm
    generalize ks1.dropLast = ks1' at q1
    generalize ks1.getLast hne = k at q1
    generalize cs1.dropLast = cs1' at q2
    generalize cs1.getLast hne' = l at q2
    subst q1
    subst q2
    have hlen' : cs1'.length = ks1'.length := by simpa using hlen
    obtain ⟨hpr, hl2⟩ := (pre_snoc _ _ _ hlen').1 h.pre
    have hl2l := hl2.len
    rw [lst_snoc] at hc
    have hkl : (ks1' ++ [k]).length = ks1'.length + 1 := by simp
    exact refill_two (a := a) (ks1 := ks1') (k := k) (ks2 := []) (cs1 := cs1') (l := l) (r := c) (cs2 := []) (by rw [hks]; simp) (by rw [hcs]; simp) h.vs hlen' (by simp at h1l h2l hlen; simp; omega) h.asc h.win hpr trivial (hl2.resize (by omega) (by omega)) hc (by omega) (by omega) hla hlb
  | [], _ :: _ => exact h.post.elim
  | _ :: ks, [] =>
    simp at h1l h2l
    omega

/-- What a taking away makes of a tree; it may leave the root with one key too few. -/
def delT : Nat → Tr → Key → Tr
  | 0, t, k => .mk (delK t.ks k) (delV t.ks t.vs k) t.cs
  | n + 1, t, k =>
    match t.cs[tow t.ks k]? with
    | none => t
    | some c =>
      if (delT n c k).ks.length < 2 then refillT (.mk t.ks t.vs (t.cs.set (tow t.ks k) (delT n c k))) (tow t.ks k)
      else .mk t.ks t.vs (t.cs.set (tow t.ks k) (delT n c k))
/-- Whether the key is there. -/
def wasT : Nat → Tr → Key → Bool
  | 0, t, k => decide (k ∈ t.ks)
  | n + 1, t, k =>
    match t.cs[tow t.ks k]? with
    | none => false
    | some c => wasT n c k
theorem del_ok : ∀ (n : Nat) {a : Nat} {lo hi : Bd} {t : Tr} (h : Ok n a 4 lo hi t) (k v : Key) (h0 : n = 0 ∨ 1 ≤ a),
    Ok n (a - 1) 4 lo hi (delT n t k) ∧ prs n (delT n t k) = aft k v true (prs n t) ∧ t.ks.length - 1 ≤ (delT n t k).ks.length ∧ (wasT n t k = false → aft k v true (prs n t) = prs n t)
  | 0, a, lo, hi, t, h, k, v, _ => by
    obtain ⟨⟨l1, l2⟩, hA, hW, hv, hc⟩ := h
    obtain ⟨p1, p2, p3⟩ := delK_len (k := k) hA
    refine ⟨⟨⟨by simp [delT]; omega, by simp [delT]; omega⟩, List.Pairwise.sublist (sub_delK _ _) hA, fun x hx => hW x ((sub_delK _ _).subset hx), delV_len hA hv, hc⟩, del_zip k v _ _ hA hv, by simp [delT]; omega, fun hw => ?_⟩
    have hm : k ∉ t.ks := by simpa [wasT] using hw
    show aft k v true (t.ks.zip t.vs) = t.ks.zip t.vs
    rw [← del_zip k v _ _ hA hv]
    unfold delK delV
    rw [if_neg hm, if_neg hm]
  | n + 1, a, lo, hi, t, h, k, v, h0 => by
    obtain ⟨c, e, hab, hc⟩ := h.about (tow_le t.ks k)
    obtain ⟨t1, t2⟩ := tow_split h.asc k
    have hlen : (t.ks.take (tow t.ks k)).length = tow t.ks k := by have := tow_le t.ks k; simp; omega
    obtain ⟨i1, i2, i3, i4⟩ := del_ok n hc k v (.inr (by omega))
    have hsw := hab.swap (delT n c k)
    rw [hlen] at hsw
    obtain ⟨l1, l2⟩ := h.len
    obtain ⟨l3, l4⟩ := hc.len
    have hkids := h.kids
    have hsplit : aft k v true (prs (n + 1) t) = (t.cs.take (tow t.ks k)).flatMap (prs n) ++ (aft k v true (prs n c) ++ (t.cs.drop (tow t.ks k + 1)).flatMap (prs n)) ∧ prs (n + 1) t = (t.cs.take (tow t.ks k)).flatMap (prs n) ++ (prs n c ++ (t.cs.drop (tow t.ks k + 1)).flatMap (prs n)) := by
      have e1 := hab.cs
      have e3 := hab.pre
      have e4 := hab.post
      rw [prs_succ]
      clear hsw i2 i4
      generalize List.take (tow t.ks k) t.cs = cs1 at e1 e3
      generalize List.drop (tow t.ks k + 1) t.cs = cs2 at e1 e4
      rw [e1]
      simp only [List.flatMap_append, List.flatMap_cons]
      refine ⟨?_, trivial⟩
      rw [aft_ahead, aft_behind]
      · intro p hp
        obtain ⟨x, hx, hl⟩ := post_above (fun lo hi t h => prs_in n lo hi t h) _ _ e4 p hp
        have := t2 x hx; grind
      · intro p hp
        obtain ⟨x, hx, hl⟩ := pre_below (fun lo hi t h => prs_in n lo hi t h) _ _ _ e3 p hp
        have := t1 x hx; grind
    have hp : prs (n + 1) (.mk t.ks t.vs (t.cs.set (tow t.ks k) (delT n c k))) = aft k v true (prs (n + 1) t) := by
      rw [hsplit.1, prs_succ, hsw.cs]
      simp only [List.flatMap_append, List.flatMap_cons, i2]
    have hwas : wasT (n + 1) t k = wasT n c k := by rw [wasT, e]
    have hD : delT (n + 1) t k = if (delT n c k).ks.length < 2 then refillT (.mk t.ks t.vs (t.cs.set (tow t.ks k) (delT n c k))) (tow t.ks k) else .mk t.ks t.vs (t.cs.set (tow t.ks k) (delT n c k)) := by rw [delT, e]
    rw [hD, hwas]
    obtain ⟨l5, l6⟩ := i1.len
    have hlast : wasT n c k = false → aft k v true (prs (n + 1) t) = prs (n + 1) t := fun hw => by rw [hsplit.1, i4 hw, hsplit.2]
    by_cases hw : (delT n c k).ks.length < 2
    · have hs := refill_ok (a := a - 1) hsw (i1.resize (by omega) (by omega)) hw (by rw [Tr.cs_mk, Tr.ks_mk, set_len]; exact hkids) (by simp; omega) (by simp; omega) (by simp; omega)
      rw [hlen] at hs
      rw [if_pos hw]
      exact ⟨hs.1, hs.2.1.trans hp, hs.2.2, hlast⟩
    · have hs := hsw.ok (a := a - 1) (b := 4) (i1.resize (by omega) (by omega)) (by simp; omega) (by simp; omega)
      rw [if_neg hw]
      exact ⟨hs, hp, by simp, hlast⟩

/-- A tree that may be, or one of no pairs. -/
def Good (n : Nat) (t : Tr) : Prop := Ok n (min n 1) 4 none none t
/-- What stands above all. -/
def rootT (n : Nat) (t : Tr) : Nat × Tr := if 4 < t.ks.length then (n + 1, splitT (.mk [] [] [t]) 0) else match t.cs with
  | [c] => (n - 1, c)
  | _ => (n, t)
theorem root_wide {n : Nat} {t : Tr} (h : Ok n 5 5 none none t) : Good (n + 1) (splitT (.mk [] [] [t]) 0) ∧ prs (n + 1) (splitT (.mk [] [] [t]) 0) = prs n t ∧ (splitT (.mk [] [] [t]) 0).ks.length = 1 := by
  have hab : About n none none (.mk [] [] [t]) [] [] [] t [] := ⟨rfl, rfl, rfl, rfl, Asc.nil, fun k hk => by simp at hk, trivial, trivial⟩
  have hs := hab.split (a := 1) (b := 4) (h.resize (by have := h.len; omega) (by have := h.len; omega)) (fun k hk => by simp at hk) (by simp) (by simp)
  refine ⟨?_, hs.2.1.trans (by simp [prs]), hs.2.2⟩
  show Ok (n + 1) (min (n + 1) 1) 4 none none _
  rw [show min (n + 1) 1 = 1 by omega]
  exact hs.1
theorem put_good {n : Nat} {t : Tr} (h : Good n t) (k v : Key) : Good (rootT n (putT n t k v)).1 (rootT n (putT n t k v)).2 ∧ prs (rootT n (putT n t k v)).1 (rootT n (putT n t k v)).2 = aft k v false (prs n t) ∧ 1 ≤ (rootT n (putT n t k v)).2.ks.length := by
  obtain ⟨h1, h2, h3, h4⟩ := put_ok n h k v (ge_none k) (bel_none k) (by omega)
  have hl := h1.len
  unfold rootT
  by_cases hw : 4 < (putT n t k v).ks.length
  · obtain ⟨w1, w2, w3⟩ := root_wide (h1.resize (a' := 5) (b' := 5) (by omega) (by omega))
    rw [if_pos hw]
    exact ⟨w1, w2.trans h2, by rw [w3]; omega⟩
  · rw [if_neg hw]
    have hcs : ∀ c, (putT n t k v).cs ≠ [c] := fun c e => by
      cases n with
      | zero => rw [h1.2.2.2.2] at e; cases e
      | succ n => have := h1.kids; rw [e] at this; simp at this; rw [this] at h4; simp at h4
    have hm : (match (putT n t k v).cs with | [c] => (n - 1, c) | _ => (n, putT n t k v)) = (n, putT n t k v) := by
      split
      · rename_i c e; exact absurd e (hcs c)
      · rfl
    rw [hm]
    exact ⟨h1.resize (by omega) (by omega), h2, h4⟩
theorem del_good {n : Nat} {t : Tr} (h : Good n t) (k v : Key) : Good (rootT n (delT n t k)).1 (rootT n (delT n t k)).2 ∧ prs (rootT n (delT n t k)).1 (rootT n (delT n t k)).2 = aft k v true (prs n t) ∧ (wasT n t k = false → aft k v true (prs n t) = prs n t) := by
  obtain ⟨h1, h2, h3, h4⟩ := del_ok n h k v (by omega)
  have hl := h1.len
  have hl0 := h.len
  unfold rootT
  rw [if_neg (by omega)]
  cases n with
  | zero =>
    rw [h1.2.2.2.2]
    show Good 0 (delT 0 t k) ∧ prs 0 (delT 0 t k) = _ ∧ _
    exact ⟨h1.resize (by omega) (by omega), h2, h4⟩
  | succ n =>
    have hk := h1.kids
    have hch := h1.2.2.2.2
    match hcs : (delT (n + 1) t k).cs with
    | [c] =>
      rw [hcs] at hk hch
      simp at hk
      rw [hk] at hch
      have hc : Ok n 2 4 none none c := hch
      refine ⟨?_, ?_, h4⟩
      · exact hc.resize (by have := hc.len; omega) (by have := hc.len; omega)
      · rw [← h2, prs_succ, hcs]; simp
    | [] => rw [hcs] at hk; simp at hk
    | c1 :: c2 :: r =>
      rw [hcs] at hk
      simp at hk
      exact ⟨h1.resize (by omega) (by omega), h2, h4⟩
end Go.Proofs.Ytkpjkglheegmgaa
/- A tree read out of numbered nodes, and laid into such: plain mathematics. Conditions: none. -/
namespace Go.Proofs.Ytkpjkglheegmgaa
set_option linter.unusedSimpArgs false
set_option linter.unusedVariables false

/-- A node with its kids' numbers. -/
structure Nd where
  ks : List Key
  vs : List Key
  kids : List Int
/-- What a reader has met: nodes, pairs, and how deep leaves stand. -/
structure Sr where
  M : List Nat
  p : Nat
  L : Nat
def least (deep : Nat) : Nat := if deep = 1 then 1 else 2
/-- Whether a node's lists are as long as they may be. -/
def Formed (deep : Nat) (x : Nd) : Prop := least deep ≤ x.ks.length ∧ x.ks.length ≤ 4 ∧ (if x.kids.isEmpty = true then x.vs.length = x.ks.length else x.vs.length = 0 ∧ x.kids.length = x.ks.length + 1)
/-- Whether keys rise within bounds. -/
def Holds (lo hi : Bd) (ks : List Key) : Prop := Asc ks ∧ Within lo hi ks
def rdK (step : Bd → Bd → Int → Sr → Option (Tr × Sr)) : Bd → Bd → List Key → List Int → Sr → Option (List Tr × Sr)
  | lo, hi, [], [c], s =>
    match step lo hi c s with
    | none => none
    | some (t, s') => some ([t], s')
  | lo, hi, k :: ks, c :: cs, s =>
    match step lo (some k) c s with
    | none => none
    | some (t, s') =>
      match rdK step (some k) hi ks cs s' with
      | none => none
      | some (ts, s'') => some (t :: ts, s'')
  | _, _, _, _, _ => none
open Classical in
/-- What a reader makes of a leaf. -/
noncomputable def rdLeaf (x : Nd) (i deep : Nat) (s : Sr) : Option (Tr × Sr) :=
  if (if s.L = 0 then deep else s.L) = deep ∧ s.p + x.ks.length ≤ 2048 then some (.mk x.ks x.vs [], ⟨i :: s.M, s.p + x.ks.length, if s.L = 0 then deep else s.L⟩) else none
open Classical in
/-- What a reader makes of the node of a number, and all below it. -/
noncomputable def rd (nodes : List Nd) : Nat → Bd → Bd → Nat → Int → Sr → Option (Tr × Sr)
  | 0, _, _, _, _, _ => none
  | f + 1, lo, hi, deep, at_, s =>
    if 0 ≤ at_ then
      match nodes[at_.toNat]? with
      | none => none
      | some x =>
        if at_.toNat ∈ s.M then none
        else if Formed deep x ∧ Holds lo hi x.ks then
          if x.kids.isEmpty = true then rdLeaf x at_.toNat deep s
          else match rdK (fun lo hi c s => rd nodes f lo hi (deep + 1) c s) lo hi x.ks x.kids ⟨at_.toNat :: s.M, s.p, s.L⟩ with
            | none => none
            | some (ts, s') => some (.mk x.ks x.vs ts, s')
        else none
    else none
/-- The tree of no pairs. -/
def noT : Tr := .mk [] [] []
open Classical in
/-- What a state is: none, where it may not be; else a tree and how deep its leaves stand below the root. -/
noncomputable def rdS (nodes : List Nd) (root : Int) : Option (Nat × Tr) :=
  if nodes.isEmpty = true then (if root = -1 then some (0, noT) else none)
  else match rd nodes nodes.length none none 1 root ⟨[], 0, 0⟩ with
    | none => none
    | some (t, s) => if s.M.length = nodes.length then some (s.L - 1, t) else none

/-- How many nodes a tree has. -/
def cnt : Nat → Tr → Nat
  | 0, _ => 1
  | n + 1, t => 1 + (t.cs.map (cnt n)).sum
theorem sum_le {f g : Tr → Nat} : ∀ {cs : List Tr}, (∀ c ∈ cs, f c + 1 ≤ g c) → (cs.map f).sum + cs.length ≤ (cs.map g).sum
  | [], _ => by simp
  | c :: cs, h => by
    have h1 := h c (by simp)
    have h2 := sum_le (cs := cs) (f := f) (g := g) (fun x hx => h x (by simp [hx]))
    simp; omega
theorem len_flat (n : Nat) : ∀ (cs : List Tr), (cs.flatMap (prs n)).length = (cs.map (fun c => (prs n c).length)).sum
  | [] => rfl
  | c :: cs => by simp
theorem chain_all {P : Bd → Bd → Tr → Prop} {Q : Tr → Prop} (h : ∀ lo hi t, P lo hi t → Q t) {hi : Bd} : ∀ (lo : Bd) (ks : List Key) (cs : List Tr), Chain P lo hi ks cs → ∀ c ∈ cs, Q c
  | lo, [], [c], hc, x, hx => by simp at hx; subst hx; exact h _ _ _ hc
  | lo, k :: ks, c :: cs, hc, x, hx => by
    rcases List.mem_cons.1 hx with rfl | hx
    · exact h _ _ _ hc.1
    · exact chain_all h _ _ _ hc.2 x hx
  | lo, [], [], hc, _, _ => hc.elim
  | lo, [], _ :: _ :: _, hc, _, _ => hc.elim
  | lo, _ :: _, [], hc, _, _ => hc.elim
theorem cnt_le : ∀ (n : Nat) {lo hi : Bd} {t : Tr}, Ok n 2 4 lo hi t → cnt n t + 1 ≤ (prs n t).length
  | 0, lo, hi, t, h => by
    have := h.len
    have hv := h.2.2.2.1
    simp [cnt, prs, hv]; omega
  | n + 1, lo, hi, t, h => by
    have hk := h.kids
    have hl := h.len
    have := sum_le (f := cnt n) (g := fun c => (prs n c).length) (cs := t.cs) (chain_all (fun lo hi t h => cnt_le n h) _ _ _ h.2.2.2.2)
    rw [prs_succ, len_flat, cnt]
    omega
theorem cnt_root : ∀ (n : Nat) {lo hi : Bd} {t : Tr}, Ok n 1 4 lo hi t → cnt n t ≤ (prs n t).length
  | 0, lo, hi, t, h => by
    have := h.len
    have hv := h.2.2.2.1
    simp [cnt, prs, hv]; omega
  | n + 1, lo, hi, t, h => by
    have hk := h.kids
    have hl := h.len
    have := sum_le (f := cnt n) (g := fun c => (prs n c).length) (cs := t.cs) (chain_all (fun lo hi t h => cnt_le n h) _ _ _ h.2.2.2.2)
    rw [prs_succ, len_flat, cnt]
    omega

theorem rdLeaf_some {x : Nd} {i deep : Nat} {s : Sr} {r : Tr × Sr} : rdLeaf x i deep s = some r ↔ (s.L = 0 ∨ s.L = deep) ∧ s.p + x.ks.length ≤ 2048 ∧ r = (.mk x.ks x.vs [], ⟨i :: s.M, s.p + x.ks.length, deep⟩) := by
  unfold rdLeaf
  by_cases h0 : s.L = 0
  · by_cases h1 : s.p + x.ks.length ≤ 2048
    · simp [h0, h1, eq_comm]
    · simp [h0, h1]
  · by_cases h2 : s.L = deep
    · by_cases h1 : s.p + x.ks.length ≤ 2048
      · subst h2
        simp [h0, h1, eq_comm]
      · simp [h0, h1, h2]
    · simp [h0, h2]
theorem rd_some {nodes : List Nd} {f : Nat} {lo hi : Bd} {deep : Nat} {a : Int} {s : Sr} {r : Tr × Sr} : rd nodes (f + 1) lo hi deep a s = some r ↔
    0 ≤ a ∧ ∃ x, nodes[a.toNat]? = some x ∧ a.toNat ∉ s.M ∧ Formed deep x ∧ Holds lo hi x.ks ∧
      ((x.kids.isEmpty = true ∧ rdLeaf x a.toNat deep s = some r) ∨ (x.kids.isEmpty = false ∧ ∃ ts s1, rdK (fun lo hi c s => rd nodes f lo hi (deep + 1) c s) lo hi x.ks x.kids ⟨a.toNat :: s.M, s.p, s.L⟩ = some (ts, s1) ∧ r = (.mk x.ks x.vs ts, s1))) := by
  rw [rd]
  by_cases h1 : 0 ≤ a
  · rw [if_pos h1]
    cases hx : nodes[a.toNat]? with
    | none => simp
    | some x =>
      simp only [Option.some.injEq]
      by_cases h2 : a.toNat ∈ s.M
      · rw [if_pos h2]
        simp [h2]
      · rw [if_neg h2]
        by_cases h3 : Formed deep x ∧ Holds lo hi x.ks
        · rw [if_pos h3]
          obtain ⟨h4, h5⟩ := h3
          cases h6 : x.kids.isEmpty
          · rw [if_neg (by simp)]
            cases h7 : rdK (fun lo hi c s => rd nodes f lo hi (deep + 1) c s) lo hi x.ks x.kids ⟨a.toNat :: s.M, s.p, s.L⟩ with
            | none =>
              constructor
              · intro h; cases h
              · rintro ⟨_, y, e, _, _, _, ⟨h8, _⟩ | ⟨_, ts, s1, h9, _⟩⟩
                · subst e; rw [h6] at h8; cases h8
                · subst e; rw [h7] at h9; cases h9
            | some q =>
              obtain ⟨ts, s1⟩ := q
              simp only [Option.some.injEq]
              constructor
              · rintro rfl
                exact ⟨h1, x, rfl, h2, h4, h5, .inr ⟨h6, ts, s1, h7, rfl⟩⟩
              · rintro ⟨_, y, rfl, _, _, _, ⟨h8, _⟩ | ⟨_, ts', s1', h9, rfl⟩⟩
                · rw [h6] at h8; cases h8
                · rw [h7] at h9
                  simp only [Option.some.injEq, Prod.mk.injEq] at h9
                  obtain ⟨rfl, rfl⟩ := h9
                  rfl
          · rw [if_pos rfl]
            constructor
            · intro h
              exact ⟨h1, x, rfl, h2, h4, h5, .inl ⟨h6, h⟩⟩
            · rintro ⟨_, y, rfl, _, _, _, ⟨_, h⟩ | ⟨h8, _⟩⟩
              · exact h
              · rw [h6] at h8; cases h8
        · rw [if_neg h3]
          constructor
          · intro h; cases h
          · rintro ⟨_, y, rfl, _, h4, h5, _⟩
            exact absurd ⟨h4, h5⟩ h3
  · rw [if_neg h1]
    simp [h1]
theorem rdK_cons {step : Bd → Bd → Int → Sr → Option (Tr × Sr)} {lo hi : Bd} {k : Key} {ks : List Key} {c : Int} {cs : List Int} {s : Sr} {r : List Tr × Sr} : rdK step lo hi (k :: ks) (c :: cs) s = some r ↔ ∃ t s1 ts s2, step lo (some k) c s = some (t, s1) ∧ rdK step (some k) hi ks cs s1 = some (ts, s2) ∧ r = (t :: ts, s2) := by
  rw [rdK]
  cases h1 : step lo (some k) c s with
  | none => simp
  | some q =>
    obtain ⟨t, s1⟩ := q
    simp only
    cases h2 : rdK step (some k) hi ks cs s1 with
    | none =>
      constructor
      · intro h; cases h
      · rintro ⟨t', s1', ts, s2, h3, h4, _⟩
        simp only [Option.some.injEq, Prod.mk.injEq] at h3
        obtain ⟨rfl, rfl⟩ := h3
        rw [h2] at h4; cases h4
    | some q =>
      obtain ⟨ts, s2⟩ := q
      simp only [Option.some.injEq]
      constructor
      · rintro rfl
        exact ⟨t, s1, ts, s2, rfl, h2, rfl⟩
      · rintro ⟨t', s1', ts', s2', h3, h4, rfl⟩
        simp only [Prod.mk.injEq] at h3
        obtain ⟨rfl, rfl⟩ := h3
        rw [h2] at h4
        simp only [Option.some.injEq, Prod.mk.injEq] at h4
        obtain ⟨rfl, rfl⟩ := h4
        rfl
theorem rdK_one {step : Bd → Bd → Int → Sr → Option (Tr × Sr)} {lo hi : Bd} {c : Int} {s : Sr} {r : List Tr × Sr} : rdK step lo hi [] [c] s = some r ↔ ∃ t s1, step lo hi c s = some (t, s1) ∧ r = ([t], s1) := by
  rw [rdK]
  cases h1 : step lo hi c s with
  | none => simp
  | some q =>
    obtain ⟨t, s1⟩ := q
    simp only [Option.some.injEq]
    constructor
    · rintro rfl; exact ⟨t, s1, rfl, rfl⟩
    · rintro ⟨t', s1', e, rfl⟩
      simp only [Prod.mk.injEq] at e
      obtain ⟨rfl, rfl⟩ := e
      rfl
/-- What a reading that goes well tells. -/
structure Told (n : Nat) (s s' : Sr) (l m : Nat) : Prop where
  l0 : s.L = 0 ∨ s.L = s'.L
  l1 : s'.L = n
  p : s'.p = s.p + l
  p1 : s'.p ≤ 2048
  m : s'.M.length = s.M.length + m
/-- What kids give, where each gives one. -/
theorem rdK_ok {D : Nat} (hD : 1 ≤ D) {step : Bd → Bd → Int → Sr → Option (Tr × Sr)} (hs : ∀ lo hi c s t s', step lo hi c s = some (t, s') → ∃ n, Ok n 2 4 lo hi t ∧ Told (D + n) s s' (prs n t).length (cnt n t)) {hi : Bd} :
    ∀ (lo : Bd) (ks : List Key) (cs : List Int) (s : Sr) (ts : List Tr) (s' : Sr), rdK step lo hi ks cs s = some (ts, s') → ∃ n, Chain (Ok n 2 4) lo hi ks ts ∧ Told (D + n) s s' (ts.flatMap (prs n)).length (ts.map (cnt n)).sum
  | lo, [], [c], s, ts, s', h => by
    obtain ⟨t, s1, hc, e⟩ := rdK_one.1 h
    simp only [Prod.mk.injEq] at e
    obtain ⟨rfl, rfl⟩ := e
    obtain ⟨n, h1, h2⟩ := hs _ _ _ _ _ _ hc
    exact ⟨n, h1, by simpa using h2⟩
  | lo, k :: ks, c :: cs, s, ts, s', h => by
    obtain ⟨t, s1, ts1, s2, hc, hk, e⟩ := rdK_cons.1 h
    simp only [Prod.mk.injEq] at e
    obtain ⟨rfl, rfl⟩ := e
    obtain ⟨n, h1, h2⟩ := hs _ _ _ _ _ _ hc
    obtain ⟨n', g1, g2⟩ := rdK_ok hD hs _ _ _ _ _ _ hk
    obtain rfl : n' = n := by
      have a1 := h2.l1
      have a2 := g2.l1
      rcases g2.l0 with e | e <;> omega
    refine ⟨n', ⟨h1, g1⟩, ⟨?_, g2.l1, ?_, g2.p1, ?_⟩⟩
    · rcases h2.l0 with e | e
      · exact .inl e
      · exact .inr (e.trans (h2.l1.trans g2.l1.symm))
    · rw [g2.p, h2.p]; simp; omega
    · rw [g2.m, h2.m]; simp; omega
  | lo, [], [], s, ts, s', h => by simp [rdK] at h
  | lo, [], _ :: _ :: _, s, ts, s', h => by simp [rdK] at h
  | lo, _ :: _, [], s, ts, s', h => by simp [rdK] at h
theorem rd_ok (nodes : List Nd) : ∀ (f : Nat) (lo hi : Bd) (deep : Nat) (a : Int) (s : Sr) (t : Tr) (s' : Sr), rd nodes f lo hi deep a s = some (t, s') → 1 ≤ deep → ∃ n, Ok n (least deep) 4 lo hi t ∧ Told (deep + n) s s' (prs n t).length (cnt n t)
  | 0, _, _, _, _, _, _, _, h, _ => by rw [rd] at h; cases h
  | f + 1, lo, hi, deep, a, s, t, s', h, hd => by
    obtain ⟨ha, x, hx, hm, ⟨f1, f2, f3⟩, ⟨hA, hW⟩, hor⟩ := rd_some.1 h
    rcases hor with ⟨hk, hl⟩ | ⟨hk, ts, s1, hr, e⟩
    · obtain ⟨h1, h2, e⟩ := rdLeaf_some.1 hl
      simp only [Prod.mk.injEq] at e
      obtain ⟨rfl, rfl⟩ := e
      rw [if_pos hk] at f3
      exact ⟨0, ⟨⟨f1, f2⟩, hA, hW, f3, rfl⟩, ⟨h1, rfl, by simp [prs, f3], h2, by simp [cnt]⟩⟩
    · simp only [Prod.mk.injEq] at e
      obtain ⟨rfl, rfl⟩ := e
      rw [hk, if_neg (by simp)] at f3
      obtain ⟨n, g1, g2⟩ := rdK_ok (D := deep + 1) (by omega) (fun lo hi c s t s' h => by
        obtain ⟨n, k1, k2⟩ := rd_ok nodes f lo hi (deep + 1) c s t s' h (by omega)
        exact ⟨n, k1.resize (by have := k1.len; unfold least at this; rw [if_neg (by omega)] at this; exact this.1) k1.len.2, k2⟩) _ _ _ _ _ _ hr
      refine ⟨n + 1, ⟨⟨f1, f2⟩, hA, hW, List.eq_nil_of_length_eq_zero f3.1, g1⟩, ⟨g2.l0, by rw [g2.l1]; omega, g2.p, g2.p1, ?_⟩⟩
      rw [g2.m, cnt]; simp; omega
theorem rdS_ok {nodes : List Nd} {root : Int} {n : Nat} {t : Tr} (h : rdS nodes root = some (n, t)) : Good n t ∧ (prs n t).length ≤ 2048 ∧ nodes.length ≤ 2048 ∧ (nodes = [] ↔ t.ks = []) := by
  unfold rdS at h
  split at h
  · rename_i he
    split at h
    · simp only [Option.some.injEq, Prod.mk.injEq] at h
      obtain ⟨rfl, rfl⟩ := h
      have : nodes = [] := by simpa using he
      subst this
      exact ⟨⟨⟨by simp [noT], by simp [noT]⟩, Asc.nil, fun k hk => by simp [noT] at hk, rfl, rfl⟩, by simp [prs, noT], by simp, by simp [noT]⟩
    · cases h
  · rename_i he
    split at h
    · cases h
    · rename_i t1 s hr
      split at h
      · rename_i hm
        simp only [Option.some.injEq, Prod.mk.injEq] at h
        obtain ⟨rfl, rfl⟩ := h
        obtain ⟨n, h1, h2⟩ := rd_ok _ _ _ _ _ _ _ _ _ hr (Nat.le_refl _)
        have e : s.L - 1 = n := by have := h2.l1; omega
        rw [e]
        have h1' : Ok n 1 4 none none t1 := h1
        have hp := h2.p
        have hp1 := h2.p1
        have hmm := h2.m
        simp at hp hmm
        have hc := cnt_root n h1'
        have hl := h1'.len
        refine ⟨h1'.resize (by omega) hl.2, by omega, by omega, ?_⟩
        constructor
        · rintro rfl; simp at he
        · intro e; rw [e] at hl; simp at hl
      · cases h
theorem sum_ge {g : Tr → Nat} {q : Nat} : ∀ (cs : List Tr), (∀ c ∈ cs, q ≤ g c) → cs.length * q ≤ (cs.map g).sum
  | [], _ => by simp
  | c :: cs, h => by
    have h1 := h c (by simp)
    have h2 := sum_ge (g := g) cs (fun x hx => h x (by simp [hx]))
    rw [List.length_cons, Nat.succ_mul, List.map_cons, List.sum_cons]; omega
/-- How many pairs a tree has at least. -/
theorem prs_least : ∀ (n : Nat) {lo hi : Bd} {t : Tr}, Ok n 2 4 lo hi t → 2 * 3 ^ n ≤ (prs n t).length
  | 0, lo, hi, t, h => by
    have := h.len
    have hv := h.2.2.2.1
    simp [prs, hv]; omega
  | n + 1, lo, hi, t, h => by
    have hk := h.kids
    have hl := h.len
    have h1 := sum_ge t.cs (chain_all (fun lo hi t h => prs_least n h) _ _ _ h.2.2.2.2)
    rw [prs_succ, len_flat]
    have h3 : 3 * (2 * 3 ^ n) ≤ t.cs.length * (2 * 3 ^ n) := Nat.mul_le_mul_right _ (by omega)
    rw [Nat.pow_succ]; omega
theorem prs_root {n : Nat} {t : Tr} (h : Ok (n + 1) 1 4 none none t) : 4 * 3 ^ n ≤ (prs (n + 1) t).length := by
  have hk := h.kids
  have hl := h.len
  have h1 := sum_ge t.cs (chain_all (fun lo hi t h => prs_least n h) _ _ _ h.2.2.2.2)
  rw [prs_succ, len_flat]
  have h3 : 2 * (2 * 3 ^ n) ≤ t.cs.length * (2 * 3 ^ n) := Nat.mul_le_mul_right _ (by omega)
  omega
end Go.Proofs.Ytkpjkglheegmgaa
/- A tree laid into numbered nodes, and read out of them again: plain mathematics. Conditions: none. -/
namespace Go.Proofs.Ytkpjkglheegmgaa
set_option linter.unusedSimpArgs false
set_option linter.unusedVariables false

def layK (f : Tr → List Nd → List Nd) : List Tr → List Nd → List Nd × List Int
  | [], acc => (acc, [])
  | c :: cs, acc => ((layK f cs (f c acc)).1, (((f c acc).length : Int) - 1) :: (layK f cs (f c acc)).2)
/-- A tree's nodes behind those of acc, kids ahead of what stands above them. -/
def lay : Nat → Tr → List Nd → List Nd
  | 0, t, acc => acc ++ [⟨t.ks, t.vs, []⟩]
  | n + 1, t, acc => (layK (lay n) t.cs acc).1 ++ [⟨t.ks, t.vs, (layK (lay n) t.cs acc).2⟩]
def layS (n : Nat) (t : Tr) : List Nd × Int := if t.ks.isEmpty = true then ([], -1) else (lay n t [], ((lay n t []).length : Int) - 1)
theorem layK_kids (f : Tr → List Nd → List Nd) : ∀ (cs : List Tr) (acc : List Nd), (layK f cs acc).2.length = cs.length
  | [], _ => rfl
  | c :: cs, acc => by simp [layK, layK_kids f cs]
theorem lay_pre : ∀ (n : Nat) (t : Tr) (acc : List Nd), acc <+: lay n t acc ∧ (lay n t acc).length = acc.length + cnt n t
  | 0, t, acc => ⟨List.prefix_append _ _, by simp [lay, cnt]⟩
  | n + 1, t, acc => by
    have go : ∀ (cs : List Tr) (acc : List Nd), acc <+: (layK (lay n) cs acc).1 ∧ (layK (lay n) cs acc).1.length = acc.length + (cs.map (cnt n)).sum := by
      intro cs
      induction cs with
      | nil => intro acc; exact ⟨List.prefix_refl _, by simp [layK]⟩
      | cons c cs ih =>
        intro acc
        have h1 := lay_pre n c acc
        have h2 := ih (lay n c acc)
        refine ⟨h1.1.trans h2.1, ?_⟩
        show (layK (lay n) cs (lay n c acc)).1.length = _
        rw [h2.2, h1.2]; simp; omega
    have h := go t.cs acc
    refine ⟨h.1.trans (List.prefix_append _ _), ?_⟩
    show ((layK (lay n) t.cs acc).1 ++ [_]).length = _
    rw [List.length_append, h.2, cnt]; simp; omega
theorem layK_pre (n : Nat) : ∀ (cs : List Tr) (acc : List Nd), acc <+: (layK (lay n) cs acc).1 ∧ (layK (lay n) cs acc).1.length = acc.length + (cs.map (cnt n)).sum
  | [], acc => ⟨List.prefix_refl _, by simp [layK]⟩
  | c :: cs, acc => by
    have h1 := lay_pre n c acc
    have h2 := layK_pre n cs (lay n c acc)
    refine ⟨h1.1.trans h2.1, ?_⟩
    show (layK (lay n) cs (lay n c acc)).1.length = _
    rw [h2.2, h1.2]; simp; omega
theorem cnt_pos : ∀ (n : Nat) (t : Tr), 1 ≤ cnt n t
  | 0, _ => by simp [cnt]
  | n + 1, t => by rw [cnt]; omega
theorem lay_last : ∀ (n : Nat) (t : Tr) (acc : List Nd), ∃ kids, (lay n t acc)[(lay n t acc).length - 1]? = some ⟨t.ks, t.vs, kids⟩ ∧ (n = 0 → kids = []) ∧ (∀ m, n = m + 1 → kids = (layK (lay m) t.cs acc).2)
  | 0, t, acc => ⟨[], by simp [lay], fun _ => rfl, fun m h => by omega⟩
  | n + 1, t, acc => ⟨(layK (lay n) t.cs acc).2, by simp [lay], fun h => by omega, fun m h => by obtain rfl : n = m := by omega
                                                                                                 rfl⟩
/-- What a reading of what was laid has met: a part of the numbers. -/
structure Met (s s' : Sr) (D a b l : Nat) : Prop where
  p : s'.p = s.p + l
  L : s'.L = D
  M : s'.M.length = s.M.length + (b - a)
  sub : ∀ x ∈ s'.M, x ∈ s.M ∨ (a ≤ x ∧ x < b)
theorem rd_lay (nodes : List Nd) : ∀ (n f : Nat) (lo hi : Bd) (deep : Nat) (t : Tr) (acc : List Nd) (s : Sr), n < f → 1 ≤ deep → Ok n (least deep) 4 lo hi t → lay n t acc <+: nodes → (∀ x ∈ s.M, x < acc.length ∨ (lay n t acc).length ≤ x) → (s.L = 0 ∨ s.L = deep + n) → s.p + (prs n t).length ≤ 2048 →
    ∃ s', rd nodes f lo hi deep (((lay n t acc).length : Int) - 1) s = some (t, s') ∧ Met s s' (deep + n) acc.length (lay n t acc).length (prs n t).length
  | 0, f, lo, hi, deep, t, acc, s, hf, hd, hok, hpre, hM, hL, hp => by
    obtain ⟨f, rfl⟩ : ∃ g, f = g + 1 := ⟨f - 1, by omega⟩
    have hlen := (lay_pre 0 t acc).2
    obtain ⟨kids, h1, h2, _⟩ := lay_last 0 t acc
    have hk : kids = [] := h2 rfl
    subst hk
    have hc := cnt_pos 0 t
    have e0 : (((lay 0 t acc).length : Int) - 1).toNat = (lay 0 t acc).length - 1 := by omega
    have hx : nodes[(((lay 0 t acc).length : Int) - 1).toNat]? = some ⟨t.ks, t.vs, []⟩ := by
      rw [e0]
      obtain ⟨r, hr⟩ := hpre
      rw [← hr, List.getElem?_append_left (by omega)]
      exact h1
    obtain ⟨⟨l1, l2⟩, hA, hW, hv, hcs⟩ := hok
    have hz : (prs 0 t).length = t.ks.length := by simp [prs, hv]
    have hc1 : cnt 0 t = 1 := rfl
    refine ⟨⟨((lay 0 t acc).length - 1) :: s.M, s.p + t.ks.length, deep⟩, rd_some.2 ⟨by omega, _, hx, ?_, ⟨l1, l2, by simp [hv]⟩, ⟨hA, hW⟩, .inl ⟨rfl, rdLeaf_some.2 ⟨hL, by show _ + t.ks.length ≤ _; omega, ?_⟩⟩⟩, ⟨by rw [hz], rfl, by simp; omega, fun x hx => ?_⟩⟩
    · rw [e0]; intro hm; have := hM _ hm; omega
    · rw [e0]
      have ht : t = .mk t.ks t.vs [] := by rw [← hcs, Tr.eta]
      rw [← ht]
    · rcases List.mem_cons.1 hx with rfl | hx
      · right; omega
      · exact .inl hx
  | n + 1, f, lo, hi, deep, t, acc, s, hf, hd, hok, hpre, hM, hL, hp => by
    obtain ⟨f, rfl⟩ : ∃ g, f = g + 1 := ⟨f - 1, by omega⟩
    have hlen := (lay_pre (n + 1) t acc).2
    obtain ⟨kids, h1, _, h2⟩ := lay_last (n + 1) t acc
    have hk : kids = (layK (lay n) t.cs acc).2 := h2 n rfl
    subst hk
    have hc := cnt_pos (n + 1) t
    have e0 : (((lay (n + 1) t acc).length : Int) - 1).toNat = (lay (n + 1) t acc).length - 1 := by omega
    have hx : nodes[(((lay (n + 1) t acc).length : Int) - 1).toNat]? = some ⟨t.ks, t.vs, (layK (lay n) t.cs acc).2⟩ := by
      rw [e0]
      obtain ⟨r, hr⟩ := hpre
      rw [← hr, List.getElem?_append_left (by omega)]
      exact h1
    have hkids := hok.kids
    have hkl := layK_kids (lay n) t.cs acc
    obtain ⟨⟨l1, l2⟩, hA, hW, hv, hch⟩ := hok
    have hpre' : (layK (lay n) t.cs acc).1 <+: nodes := (List.prefix_append _ _).trans hpre
    have hlen1 : (lay (n + 1) t acc).length = (layK (lay n) t.cs acc).1.length + 1 := by simp [lay]
    rw [prs_succ] at hp
    have go : ∀ (lo : Bd) (ks : List Key) (cs : List Tr) (acc : List Nd) (s : Sr), Chain (Ok n 2 4) lo hi ks cs → (layK (lay n) cs acc).1 <+: nodes → (∀ x ∈ s.M, x < acc.length ∨ (layK (lay n) cs acc).1.length ≤ x) → (s.L = 0 ∨ s.L = deep + 1 + n) → s.p + (cs.flatMap (prs n)).length ≤ 2048 →
        ∃ s', rdK (fun lo hi c s => rd nodes f lo hi (deep + 1) c s) lo hi ks (layK (lay n) cs acc).2 s = some (cs, s') ∧ Met s s' (deep + 1 + n) acc.length (layK (lay n) cs acc).1.length (cs.flatMap (prs n)).length := by
      intro lo ks
      induction ks generalizing lo with
      | nil =>
        intro cs acc s hch hpre hM hL hp
        match cs, hch with
        | [c], hch =>
          have hok : Ok n 2 4 lo hi c := hch
          obtain ⟨s', g1, g2⟩ := rd_lay nodes n f lo hi (deep + 1) c acc s (by omega) (by omega) (by unfold least; rw [if_neg (by omega)]; exact hok) hpre hM hL (by simpa using hp)
          exact ⟨s', rdK_one.2 ⟨c, s', g1, rfl⟩, by simpa [layK] using g2⟩
      | cons k ks ih =>
        intro cs acc s hch hpre hM hL hp
        match cs, hch with
        | c :: cs, hch =>
          have hok : Ok n 2 4 lo (some k) c := hch.1
          have q1 := lay_pre n c acc
          have q2 := layK_pre n cs (lay n c acc)
          have e1 : (layK (lay n) (c :: cs) acc).1 = (layK (lay n) cs (lay n c acc)).1 := rfl
          have e2 : (layK (lay n) (c :: cs) acc).2 = (((lay n c acc).length : Int) - 1) :: (layK (lay n) cs (lay n c acc)).2 := rfl
          rw [e1] at hpre hM ⊢
          rw [e2]
          rw [List.flatMap_cons, List.length_append] at hp ⊢
          obtain ⟨s1, g1, g2⟩ := rd_lay nodes n f lo (some k) (deep + 1) c acc s (by omega) (by omega) (by unfold least; rw [if_neg (by omega)]; exact hok) (q2.1.trans hpre) (fun x hx => by have := hM x hx; omega) hL (by omega)
          obtain ⟨s2, k1, k2⟩ := ih (some k) cs (lay n c acc) s1 hch.2 hpre (fun x hx => by
            rcases g2.sub x hx with h | h
            · have := hM x h; omega
            · omega) (.inr g2.L) (by rw [g2.p]; omega)
          refine ⟨s2, rdK_cons.2 ⟨c, s1, cs, s2, g1, k1, rfl⟩, ⟨by rw [k2.p, g2.p]; omega, k2.L, by rw [k2.M, g2.M]; omega, fun x hx => ?_⟩⟩
          rcases k2.sub x hx with h | h
          · rcases g2.sub x h with h | h
            · exact .inl h
            · right; omega
          · right; omega
    have hKp := layK_pre n t.cs acc
    obtain ⟨s', g1, g2⟩ := go lo t.ks t.cs acc ⟨((lay (n + 1) t acc).length - 1) :: s.M, s.p, s.L⟩ hch hpre' (fun x hx => by
      rcases List.mem_cons.1 hx with rfl | hx
      · omega
      · have := hM x hx; omega) (by show s.L = 0 ∨ s.L = _; omega) hp
    have hne : (layK (lay n) t.cs acc).2.isEmpty = false := by
      cases he : (layK (lay n) t.cs acc).2 with
      | nil => rw [he] at hkl; simp at hkl; omega
      | cons _ _ => rfl
    refine ⟨s', rd_some.2 ⟨by omega, _, hx, ?_, ⟨l1, l2, ?_⟩, ⟨hA, hW⟩, .inr ⟨hne, t.cs, s', by rw [e0]; exact g1, ?_⟩⟩, ⟨by rw [prs_succ, g2.p], by rw [g2.L]; omega, ?_, fun x hx => ?_⟩⟩
    · rw [e0]; intro hm; have := hM _ hm; omega
    · show if (layK (lay n) t.cs acc).2.isEmpty = true then _ else _
      rw [hne, if_neg (by simp)]
      exact ⟨by simp [hv], by simp; omega⟩
    · rw [show Tr.mk t.ks t.vs t.cs = t from t.eta]
    · rw [g2.M]; simp; omega
    · rcases g2.sub x hx with h | h
      · rcases List.mem_cons.1 h with rfl | h
        · right; omega
        · exact .inl h
      · right; omega
theorem cnt_deep : ∀ (n : Nat) {a b : Nat} {lo hi : Bd} {t : Tr}, Ok n a b lo hi t → n < cnt n t
  | 0, _, _, _, _, _, _ => by simp [cnt]
  | n + 1, a, b, lo, hi, t, h => by
    have hk := h.kids
    have hch := h.2.2.2.2
    match hcs : t.cs with
    | [] => rw [hcs] at hk; simp at hk
    | c :: cs =>
      have hc : Ok n 2 4 lo (match t.ks with | [] => hi | k :: _ => some k) c := by
        rw [hcs] at hch
        match hks : t.ks, cs with
        | [], [] => rw [hks] at hch; exact hch
        | k :: ks, cs => rw [hks] at hch; exact hch.1
        | [], _ :: _ => rw [hks] at hch; exact hch.elim
      have := cnt_deep n hc
      rw [cnt, hcs]; simp; omega
/-- What was laid is read again. -/
theorem rdS_lay {n : Nat} {t : Tr} (h : Good n t) (hp : (prs n t).length ≤ 2048) : rdS (layS n t).1 (layS n t).2 = some (n, t) := by
  unfold layS
  by_cases he : t.ks.isEmpty = true
  · rw [if_pos he]
    have hk : t.ks = [] := by simpa using he
    have hl := h.len
    rw [hk] at hl
    simp at hl
    obtain rfl : n = 0 := by omega
    obtain ⟨_, _, _, hv, hc⟩ := h
    rw [hk] at hv
    have ht : t = noT := by
      rw [← Tr.eta t, hk, hc, List.eq_nil_of_length_eq_zero hv]; rfl
    subst ht
    simp [rdS]
  · rw [if_neg he]
    have hok : Ok n (least 1) 4 none none t := by
      refine h.resize ?_ h.len.2
      show 1 ≤ _
      rcases Nat.eq_zero_or_pos t.ks.length with h0 | h0
      · exact absurd (by simpa using h0) he
      · exact h0
    have hd := cnt_deep n hok
    have hlp := lay_pre n t []
    simp at hlp
    obtain ⟨s', g1, g2⟩ := rd_lay (lay n t []) n (lay n t []).length none none 1 t [] ⟨[], 0, 0⟩ (by omega) (Nat.le_refl _) hok (List.prefix_refl _) (fun x hx => by simp at hx) (.inl rfl) (by simpa using hp)
    unfold rdS
    have hne : (lay n t []).isEmpty = false := by
      cases hx : lay n t [] with
      | nil => rw [hx] at hlp; simp at hlp; omega
      | cons _ _ => rfl
    rw [hne, if_neg (by simp), g1]
    simp only
    rw [if_pos (by rw [g2.M]; simp), g2.L]
    simp
end Go.Proofs.Ytkpjkglheegmgaa
namespace Go.Proofs.Ytkpjkglheegmgaa
set_option linter.unusedSimpArgs false
set_option linter.unusedVariables false

theorem nodup_le : ∀ (n : Nat) (l : List Nat), l.Nodup → (∀ x ∈ l, x < n) → l.length ≤ n
  | 0, l, _, h => by
    cases l with
    | nil => simp
    | cons a l => have := h a (by simp); omega
  | n + 1, l, hn, h => by
    by_cases hm : n ∈ l
    · have h1 := nodup_le n (l.erase n) (hn.erase n) (fun x hx => by
        have := (List.Nodup.mem_erase_iff hn).1 hx
        have := h x this.2
        omega)
      rw [List.length_erase_of_mem hm] at h1
      omega
    · have h1 := nodup_le n l hn (fun x hx => by
        have := h x hx
        have : x ≠ n := fun e => hm (e ▸ hx)
        omega)
      omega
theorem nodup_full {n : Nat} {l : List Nat} (hn : l.Nodup) (h : ∀ x ∈ l, x < n) (hl : n ≤ l.length) : ∀ i, i < n → i ∈ l := fun i hi => by
  by_cases hm : i ∈ l
  · exact hm
  · have := nodup_le n (i :: l) (List.nodup_cons.2 ⟨hm, hn⟩) (fun x hx => by
      rcases List.mem_cons.1 hx with rfl | hx
      · exact hi
      · exact h x hx)
    simp at this
    omega
/-- Numbers that were met: each once, all of nodes. -/
def Fine (N : Nat) (s : Sr) : Prop := s.M.Nodup ∧ ∀ x ∈ s.M, x < N
def More (s s' : Sr) : Prop := ∃ V, s'.M = V ++ s.M
theorem More.refl (s : Sr) : More s s := ⟨[], rfl⟩
theorem More.trans {a b c : Sr} (h : More a b) (k : More b c) : More a c := by
  obtain ⟨V, h⟩ := h
  obtain ⟨W, k⟩ := k
  exact ⟨W ++ V, by rw [k, h, List.append_assoc]⟩
theorem More.mem {a b : Sr} (h : More a b) {x : Nat} (hx : x ∈ a.M) : x ∈ b.M := by
  obtain ⟨V, h⟩ := h
  rw [h]; simp [hx]
theorem More.len {a b : Sr} (h : More a b) : a.M.length ≤ b.M.length := by
  obtain ⟨V, h⟩ := h
  rw [h]; simp
theorem rdK_met {N : Nat} {step : Bd → Bd → Int → Sr → Option (Tr × Sr)} (hs : ∀ lo hi c s t s', step lo hi c s = some (t, s') → Fine N s → Fine N s' ∧ More s s') {hi : Bd} :
    ∀ (lo : Bd) (ks : List Key) (cs : List Int) (s : Sr) (ts : List Tr) (s' : Sr), rdK step lo hi ks cs s = some (ts, s') → Fine N s → Fine N s' ∧ More s s'
  | lo, [], [c], s, ts, s', h, hf => by
    obtain ⟨t, s1, hc, e⟩ := rdK_one.1 h
    simp only [Prod.mk.injEq] at e
    obtain ⟨rfl, rfl⟩ := e
    exact hs _ _ _ _ _ _ hc hf
  | lo, k :: ks, c :: cs, s, ts, s', h, hf => by
    obtain ⟨t, s1, ts1, s2, hc, hk, e⟩ := rdK_cons.1 h
    simp only [Prod.mk.injEq] at e
    obtain ⟨rfl, rfl⟩ := e
    obtain ⟨h1, h2⟩ := hs _ _ _ _ _ _ hc hf
    obtain ⟨g1, g2⟩ := rdK_met hs _ _ _ _ _ _ hk h1
    exact ⟨g1, h2.trans g2⟩
  | lo, [], [], s, ts, s', h, _ => by simp [rdK] at h
  | lo, [], _ :: _ :: _, s, ts, s', h, _ => by simp [rdK] at h
  | lo, _ :: _, [], s, ts, s', h, _ => by simp [rdK] at h
theorem rd_met (nodes : List Nd) : ∀ (f : Nat) (lo hi : Bd) (deep : Nat) (a : Int) (s : Sr) (t : Tr) (s' : Sr), rd nodes f lo hi deep a s = some (t, s') → Fine nodes.length s → Fine nodes.length s' ∧ More s s'
  | 0, _, _, _, _, _, _, _, h, _ => by rw [rd] at h; cases h
  | f + 1, lo, hi, deep, a, s, t, s', h, hf => by
    obtain ⟨ha, x, hx, hm, _, _, hor⟩ := rd_some.1 h
    have hlt : a.toNat < nodes.length := (List.getElem?_eq_some_iff.1 hx).1
    have hf1 : Fine nodes.length ⟨a.toNat :: s.M, s.p, s.L⟩ := ⟨List.nodup_cons.2 ⟨hm, hf.1⟩, fun y hy => by
      rcases List.mem_cons.1 hy with rfl | hy
      · exact hlt
      · exact hf.2 y hy⟩
    rcases hor with ⟨hk, hl⟩ | ⟨hk, ts, s1, hr, e⟩
    · obtain ⟨h1, h2, e⟩ := rdLeaf_some.1 hl
      simp only [Prod.mk.injEq] at e
      obtain ⟨rfl, rfl⟩ := e
      exact ⟨hf1, ⟨[a.toNat], rfl⟩⟩
    · simp only [Prod.mk.injEq] at e
      obtain ⟨rfl, rfl⟩ := e
      obtain ⟨g1, V, hV⟩ := rdK_met (N := nodes.length) (fun lo hi c s t s' h hf => rd_met nodes f lo hi (deep + 1) c s t s' h hf) _ _ _ _ _ _ hr hf1
      exact ⟨g1, ⟨V ++ [a.toNat], by rw [hV]; simp⟩⟩
/-- What is left to be read of kids, j of them being read. -/
def rest (step : Bd → Bd → Int → Sr → Option (Tr × Sr)) (lo hi : Bd) (ks : List Key) (kids : List Int) (j : Nat) (ts : List Tr) (s : Sr) : Option (List Tr × Sr) :=
  if j < kids.length then (rdK step (lst lo (ks.take j)) hi (ks.drop j) (kids.drop j) s).map (fun p => (ts ++ p.1, p.2)) else some (ts, s)
theorem rest_zero {step : Bd → Bd → Int → Sr → Option (Tr × Sr)} {lo hi : Bd} {ks : List Key} {kids : List Int} {s : Sr} (h : 0 < kids.length) : rest step lo hi ks kids 0 [] s = rdK step lo hi ks kids s := by
  unfold rest
  rw [if_pos h]
  simp [lst]
theorem rest_end {step : Bd → Bd → Int → Sr → Option (Tr × Sr)} {lo hi : Bd} {ks : List Key} {kids : List Int} {ts : List Tr} {s : Sr} : rest step lo hi ks kids kids.length ts s = some (ts, s) := by
  unfold rest
  rw [if_neg (by omega)]
theorem lst_take_succ (lo : Bd) : ∀ (ks : List Key) (i : Nat) (h : i < ks.length), lst lo (ks.take (i + 1)) = some ks[i]
  | k :: ks, 0, _ => by simp [lst]
  | k :: ks, i + 1, h => by
    rw [List.take_succ_cons, lst]
    exact lst_take_succ (some k) ks i (by simpa using h)
theorem rest_step {step : Bd → Bd → Int → Sr → Option (Tr × Sr)} {lo hi : Bd} {ks : List Key} {kids : List Int} {j : Nat} {ts : List Tr} {s : Sr} (hl : kids.length = ks.length + 1) (hj : j < kids.length) :
    rest step lo hi ks kids j ts s = match step (lst lo (ks.take j)) (hed hi (ks.drop j)) kids[j] s with
      | none => none
      | some (t, s') => rest step lo hi ks kids (j + 1) (ts ++ [t]) s' := by
  unfold rest
  rw [if_pos hj, List.drop_eq_getElem_cons hj]
  by_cases hk : j < ks.length
  · rw [List.drop_eq_getElem_cons hk]
    show Option.map _ (match step (lst lo (ks.take j)) (some ks[j]) kids[j] s with | none => none | some (t, s') => _) = match step (lst lo (ks.take j)) (some ks[j]) kids[j] s with | none => none | some (t, s') => _
    cases step (lst lo (ks.take j)) (some ks[j]) kids[j] s with
    | none => rfl
    | some r =>
      obtain ⟨t, s'⟩ := r
      simp only
      rw [if_pos (by omega), lst_take_succ lo ks j hk]
      cases rdK step (some ks[j]) hi (ks.drop (j + 1)) (kids.drop (j + 1)) s' with
      | none => rfl
      | some q => simp
  · have e1 : ks.drop j = [] := List.drop_of_length_le (by omega)
    have e2 : kids.drop (j + 1) = [] := List.drop_of_length_le (by omega)
    rw [e1, e2]
    show Option.map _ (match step (lst lo (ks.take j)) hi kids[j] s with | none => none | some (t, s') => _) = match step (lst lo (ks.take j)) hi kids[j] s with | none => none | some (t, s') => _
    cases step (lst lo (ks.take j)) hi kids[j] s with
    | none => rfl
    | some r =>
      obtain ⟨t, s'⟩ := r
      simp only
      rw [if_neg (by omega)]
      rfl
end Go.Proofs.Ytkpjkglheegmgaa
