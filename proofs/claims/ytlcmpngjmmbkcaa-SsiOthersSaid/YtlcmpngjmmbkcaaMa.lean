/- Transactions in plain words: which states may be, and what each call makes of them. Conditions: none. -/
import Derived.WalkKit
namespace Go.Proofs.Ytlcmpngjmmbkcaa
set_option linter.unusedSimpArgs false
set_option linter.unusedVariables false

/-- A transaction. -/
structure Tx where
  i : Int
  s : Int
  e : Int
  a : Bool
  o : Bool
structure St where
  l : List Tx
  c : Int
  n : Int
def zS : St := ⟨[], 0, 0⟩
def ahdB (x : Int) (t : Tx) : Bool := decide (0 < t.e) && decide (t.e ≤ x)
def mayB (c : Int) (t : Tx) : Bool := decide (0 ≤ t.s) && decide (t.s ≤ c) && decide (-1 ≤ t.e) && decide (t.e ≤ c) && !ahdB t.s t
def Fol (x y : Tx) : Prop := x.i < y.i ∧ (0 < x.e → x.e ≠ y.e)
structure Ok (s : St) : Prop where
  len : s.l.length ≤ 64
  c0 : 0 ≤ s.c
  c1 : s.c ≤ 1099511627776
  n0 : 1 ≤ s.n
  n1 : s.n ≤ 1099511627776
  may : ∀ t ∈ s.l, mayB s.c t = true
  pos : ∀ t ∈ s.l, 0 < t.i
  lt : ∀ t ∈ s.l, t.i < s.n
  fol : s.l.Pairwise Fol
theorem mayB_iff {c : Int} {t : Tx} : mayB c t = true ↔ 0 ≤ t.s ∧ t.s ≤ c ∧ -1 ≤ t.e ∧ t.e ≤ c ∧ (0 < t.e → t.s < t.e) := by
  simp [mayB, ahdB]
  omega
theorem mayB_up {c d : Int} {t : Tx} (h : mayB c t = true) (hc : c ≤ d) : mayB d t = true := by
  rw [mayB_iff] at *
  omega

/-! Places. -/
def plc (i : Int) (l : List Tx) : Nat := l.findIdx fun t => t.i == i
def idx (i : Int) (l : List Tx) : Int := if plc i l < l.length then (plc i l : Int) else -1
theorem plc_at {i : Int} {l : List Tx} (h : plc i l < l.length) : (l[plc i l]).i = i := by
  have := List.findIdx_getElem (p := fun t : Tx => t.i == i) (xs := l) (w := h)
  simp only [beq_iff_eq] at this
  exact this
theorem plc_mem {i : Int} {l : List Tx} : plc i l < l.length ↔ ∃ t ∈ l, t.i = i := by
  unfold plc
  rw [List.findIdx_lt_length]
  simp
theorem Ok.inj {s : St} (h : Ok s) {j k : Nat} (hj : j < s.l.length) (hk : k < s.l.length) (he : s.l[j].i = s.l[k].i) : j = k := by
  have hp := List.pairwise_iff_getElem.1 h.fol
  rcases Nat.lt_trichotomy j k with h1 | h1 | h1
  · have := (hp j k hj hk h1).1; omega
  · exact h1
  · have := (hp k j hk hj h1).1; omega
theorem Ok.uniq {s : St} (h : Ok s) {t u : Tx} (ht : t ∈ s.l) (hu : u ∈ s.l) (he : t.i = u.i) : t = u := by
  obtain ⟨j, hj, rfl⟩ := List.mem_iff_getElem.1 ht
  obtain ⟨k, hk, rfl⟩ := List.mem_iff_getElem.1 hu
  have := h.inj hj hk he
  subst this
  rfl
theorem Ok.plc {s : St} (h : Ok s) {j : Nat} (hj : j < s.l.length) : plc s.l[j].i s.l = j := by
  have h1 : Ytlcmpngjmmbkcaa.plc s.l[j].i s.l < s.l.length := plc_mem.2 ⟨_, List.getElem_mem hj, rfl⟩
  exact h.inj h1 hj (plc_at h1)

/-! Check's walk. -/
/-- What has been walked over may be, and its last ID is m. -/
structure Good (c : Int) (l : List Tx) (m : Int) : Prop where
  may : ∀ t ∈ l, mayB c t = true
  pos : ∀ t ∈ l, 0 < t.i
  le : ∀ t ∈ l, t.i ≤ m
  m0 : 0 ≤ m
  top : m = 0 ∨ ∃ t ∈ l, t.i = m
  fol : l.Pairwise Fol
def dupB (l : List Tx) (e : Int) : Bool := decide (∃ t ∈ l, 0 < t.e ∧ t.e = e)
theorem Good.nil (c : Int) : Good c [] 0 := ⟨by simp, by simp, by simp, by omega, .inl rfl, List.Pairwise.nil⟩
theorem Good.step {c m : Int} {l : List Tx} {t : Tx} (h : Good c l m) (h1 : m < t.i) (h2 : mayB c t = true) (h3 : dupB l t.e = false) : Good c (l ++ [t]) t.i := by
  have h3' : ¬ ∃ u ∈ l, 0 < u.e ∧ u.e = t.e := by simpa [dupB] using h3
  have hm := h.m0
  refine ⟨fun u hu => ?_, fun u hu => ?_, fun u hu => ?_, by omega, .inr ⟨t, by simp, rfl⟩, ?_⟩
  · rcases List.mem_append.1 hu with k | k
    · exact h.may u k
    · simp at k; subst k; exact h2
  · rcases List.mem_append.1 hu with k | k
    · exact h.pos u k
    · simp at k; subst k; omega
  · rcases List.mem_append.1 hu with k | k
    · have := h.le u k; omega
    · simp at k; subst k; omega
  · rw [List.pairwise_append]
    refine ⟨h.fol, by simp, fun u hu v hv => ?_⟩
    simp at hv
    subst hv
    exact ⟨by have := h.le u hu; omega, fun h0 he => h3' ⟨u, hu, h0, he⟩⟩
theorem Good.bad {c n m : Int} {l r : List Tx} {t : Tx} (h : Good c l m) (hb : ¬ (m < t.i ∧ mayB c t = true ∧ dupB l t.e = false)) : ¬ Ok ⟨l ++ t :: r, c, n⟩ := by
  intro k
  apply hb
  have hp := List.pairwise_append.1 k.fol
  have ht : t ∈ l ++ t :: r := by simp
  refine ⟨?_, k.may t ht, ?_⟩
  · have h0 := k.pos t ht
    rcases h.top with e | ⟨u, hu, e⟩
    · omega
    · have := (hp.2.2 u hu t (by simp)).1; omega
  · simp only [dupB, decide_eq_false_iff_not]
    rintro ⟨u, hu, h0, he⟩
    exact (hp.2.2 u hu t (by simp)).2 h0 he
theorem Good.ok {c n m : Int} {l : List Tx} (h : Good c l m) (hl : l.length ≤ 64) (h0 : 0 ≤ c) (h1 : c ≤ 1099511627776) (h2 : m < n) (h3 : n ≤ 1099511627776) : Ok ⟨l, c, n⟩ :=
  ⟨hl, h0, h1, by have := h.m0; show 1 ≤ n; omega, h3, h.may, h.pos, fun t ht => by have := h.le t ht; show t.i < n; omega, h.fol⟩
theorem Good.last {c n m : Int} {l : List Tx} (h : Good c l m) (hn : ¬ (m < n ∧ n ≤ 1099511627776)) : ¬ Ok ⟨l, c, n⟩ := by
  intro k
  apply hn
  refine ⟨?_, k.n1⟩
  rcases h.top with e | ⟨u, hu, e⟩
  · have := k.n0; simp at this; omega
  · have := k.lt u hu; simp at this; omega

/-! What the calls make of a state that may be. -/
theorem Ok.sub {s : St} (h : Ok s) {l : List Tx} (hl : l.Sublist s.l) : Ok ⟨l, s.c, s.n⟩ :=
  ⟨Nat.le_trans hl.length_le h.len, h.c0, h.c1, h.n0, h.n1, fun t ht => h.may t (hl.subset ht), fun t ht => h.pos t (hl.subset ht), fun t ht => h.lt t (hl.subset ht), h.fol.sublist hl⟩
theorem Ok.beg {s : St} (h : Ok s) (h1 : s.l.length < 64) (h2 : s.n < 1099511627776) : Ok ⟨s.l ++ [⟨s.n, s.c, 0, false, false⟩], s.c, s.n + 1⟩ := by
  have n0 := h.n0
  have c0 := h.c0
  refine ⟨by simp; omega, h.c0, h.c1, by show 1 ≤ s.n + 1; omega, by show s.n + 1 ≤ _; omega, fun t ht => ?_, fun t ht => ?_, fun t ht => ?_, ?_⟩
  · rcases List.mem_append.1 ht with k | k
    · exact h.may t k
    · simp at k; subst k; rw [mayB_iff]; simp; omega
  · rcases List.mem_append.1 ht with k | k
    · exact h.pos t k
    · simp at k; subst k; simp; omega
  · rcases List.mem_append.1 ht with k | k
    · have := h.lt t k; show t.i < s.n + 1; omega
    · simp at k; subst k; simp; omega
  · rw [List.pairwise_append]
    refine ⟨h.fol, by simp, fun u hu v hv => ?_⟩
    simp at hv
    subst hv
    exact ⟨h.lt u hu, fun h0 he => by simp at he; omega⟩
/-- One transaction in place of another of its ID; an End of its own. -/
theorem Ok.set {s : St} (h : Ok s) {j : Nat} (hj : j < s.l.length) (t : Tx) (d : Int) (hi : t.i = s.l[j].i) (hd : s.c ≤ d) (hd2 : d ≤ 1099511627776) (hm : mayB d t = true) (he : 0 < t.e → ∀ (k : Nat) (hk : k < s.l.length), k ≠ j → s.l[k].e ≠ t.e) : Ok ⟨s.l.set j t, d, s.n⟩ := by
  have c0 := h.c0
  have hmem : ∀ u ∈ s.l.set j t, u ∈ s.l ∨ u = t := fun u hu => List.mem_or_eq_of_mem_set hu
  have hjm := List.getElem_mem hj
  refine ⟨by simpa using h.len, by show 0 ≤ d; omega, hd2, h.n0, h.n1, fun u hu => ?_, fun u hu => ?_, fun u hu => ?_, ?_⟩
  · rcases hmem u hu with k | rfl
    · exact mayB_up (h.may u k) hd
    · exact hm
  · rcases hmem u hu with k | rfl
    · exact h.pos u k
    · rw [hi]; exact h.pos _ hjm
  · rcases hmem u hu with k | rfl
    · exact h.lt u k
    · rw [hi]; exact h.lt _ hjm
  · rw [List.pairwise_iff_getElem]
    intro x y hx hy hxy
    simp only [List.length_set] at hx hy
    have hp := List.pairwise_iff_getElem.1 h.fol x y hx hy hxy
    rw [List.getElem_set, List.getElem_set]
    by_cases e1 : j = x
    · subst e1
      rw [if_pos rfl, if_neg (by omega)]
      exact ⟨by rw [hi]; exact hp.1, fun h0 e => he h0 y hy (by omega) e.symm⟩
    · rw [if_neg e1]
      by_cases e2 : j = y
      · subst e2
        rw [if_pos rfl]
        exact ⟨by rw [hi]; exact hp.1, fun h0 e => he (by omega) x hx (by omega) e⟩
      · rw [if_neg e2]
        exact hp
theorem Ok.com {s : St} (h : Ok s) {j : Nat} (hj : j < s.l.length) (h0 : s.l[j].e = 0) (hc : s.c < 1099511627776) : Ok ⟨s.l.set j ⟨s.l[j].i, s.l[j].s, s.c + 1, s.l[j].a, s.l[j].o⟩, s.c + 1, s.n⟩ := by
  have hm := mayB_iff.1 (h.may _ (List.getElem_mem hj))
  have c0 := h.c0
  refine h.set hj _ _ rfl (by omega) (by omega) (mayB_iff.2 ?_) fun _ k hk _ e => ?_
  · show 0 ≤ s.l[j].s ∧ s.l[j].s ≤ s.c + 1 ∧ -1 ≤ s.c + 1 ∧ s.c + 1 ≤ s.c + 1 ∧ (0 < s.c + 1 → s.l[j].s < s.c + 1)
    omega
  · have := (mayB_iff.1 (h.may _ (List.getElem_mem hk))).2.2.2.1
    have e' : s.l[k].e = s.c + 1 := e
    omega
theorem Ok.abo {s : St} (h : Ok s) {j : Nat} (hj : j < s.l.length) : Ok ⟨s.l.set j ⟨s.l[j].i, s.l[j].s, -1, s.l[j].a, s.l[j].o⟩, s.c, s.n⟩ := by
  have hm := mayB_iff.1 (h.may _ (List.getElem_mem hj))
  have c0 := h.c0
  refine h.set hj _ _ rfl (Int.le_refl _) h.c1 (mayB_iff.2 ?_) fun h0 => ?_
  · show 0 ≤ s.l[j].s ∧ s.l[j].s ≤ s.c ∧ -1 ≤ (-1 : Int) ∧ -1 ≤ s.c ∧ (0 < (-1 : Int) → s.l[j].s < -1)
    omega
  · simp at h0
/-- The flags alone are others. -/
theorem Ok.flags {s : St} (h : Ok s) {m : List Tx} (hl : m.length = s.l.length) (he : ∀ (j : Nat) (h1 : j < m.length) (h2 : j < s.l.length), m[j].i = s.l[j].i ∧ m[j].s = s.l[j].s ∧ m[j].e = s.l[j].e) : Ok ⟨m, s.c, s.n⟩ := by
  have hmem : ∀ u ∈ m, ∃ t ∈ s.l, u.i = t.i ∧ u.s = t.s ∧ u.e = t.e := fun u hu => by
    obtain ⟨j, hj, rfl⟩ := List.mem_iff_getElem.1 hu
    exact ⟨s.l[j]'(by omega), List.getElem_mem _, he j hj (by omega)⟩
  refine ⟨by show m.length ≤ 64; have := h.len; omega, h.c0, h.c1, h.n0, h.n1, fun u hu => ?_, fun u hu => ?_, fun u hu => ?_, ?_⟩
  · obtain ⟨t, ht, e1, e2, e3⟩ := hmem u hu
    have := h.may t ht
    rw [mayB_iff] at *
    rw [e2, e3]
    exact this
  · obtain ⟨t, ht, e1, e2, e3⟩ := hmem u hu
    rw [e1]; exact h.pos t ht
  · obtain ⟨t, ht, e1, e2, e3⟩ := hmem u hu
    show u.i < s.n
    rw [e1]; exact h.lt t ht
  · rw [List.pairwise_iff_getElem]
    intro x y hx0 hy0 hxy
    have hx : x < m.length := hx0
    have hy : y < m.length := hy0
    have hp := List.pairwise_iff_getElem.1 h.fol x y (by omega) (by omega) hxy
    obtain ⟨a1, a2, a3⟩ := he x hx (by omega)
    obtain ⟨b1, b2, b3⟩ := he y hy (by omega)
    unfold Fol at *
    rw [a1, b1, a3, b3]
    exact hp
def minS (c : Int) : List Tx → Int
  | [] => c
  | t :: r => minS (if t.e = 0 then min c t.s else c) r
theorem minS_app (c : Int) (l : List Tx) (t : Tx) : minS c (l ++ [t]) = if t.e = 0 then min (minS c l) t.s else minS c l := by
  induction l generalizing c with
  | nil => rfl
  | cons a l ih => exact ih _
theorem minS_le (c : Int) (l : List Tx) : minS c l ≤ c ∧ ∀ t ∈ l, t.e = 0 → minS c l ≤ t.s := by
  induction l generalizing c with
  | nil => exact ⟨Int.le_refl _, by simp⟩
  | cons a l ih =>
    obtain ⟨h1, h2⟩ := ih (if a.e = 0 then min c a.s else c)
    have e : minS c (a :: l) = minS (if a.e = 0 then min c a.s else c) l := rfl
    rw [e]
    split at h1
    · rename_i h0
      rw [if_pos h0] at h2 ⊢
      refine ⟨by omega, fun t ht h3 => ?_⟩
      rcases List.mem_cons.1 ht with rfl | k
      · omega
      · exact h2 t k h3
    · rename_i h0
      rw [if_neg h0] at h2 ⊢
      refine ⟨h1, fun t ht h3 => ?_⟩
      rcases List.mem_cons.1 ht with rfl | k
      · omega
      · exact h2 t k h3
/-- Who goes, when the horizon is x. -/
def goB (x : Int) (t : Tx) : Bool := decide (t.e = -1) || ahdB x t
end Go.Proofs.Ytlcmpngjmmbkcaa
