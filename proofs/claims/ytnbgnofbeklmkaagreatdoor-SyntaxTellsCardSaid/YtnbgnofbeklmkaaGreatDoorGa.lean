/- Two expressions that may be have one print just if they are one: plain mathematics. Conditions: none. -/
import Derived.Test.YtnbgnofbeklmkaaGreatDoorUa
namespace Go.Proofs.YtnbgnofbeklmkaaGreatDoor
open Go.RowKit
set_option linter.unusedSimpArgs false
set_option linter.unusedVariables false

/-- The first octet, if there is one, is not one of p's. -/
def hdN (p : UInt8 → Bool) : List UInt8 → Bool
  | [] => true
  | c :: _ => !p c
/-- What may stand behind an expression: nothing, a blank, a bracket, a comma. -/
def dlB : List UInt8 → Bool
  | [] => true
  | c :: _ => c == 32 || c == 41 || c == 44
theorem span_split {p : UInt8 → Bool} : ∀ {a b r s : List UInt8}, a.all p = true → b.all p = true → hdN p r = true → hdN p s = true → a ++ r = b ++ s → a = b ∧ r = s
  | [], [], r, s, _, _, _, _, h => ⟨rfl, h⟩
  | [], c :: b, r, s, _, hb, hr, _, h => by
    simp only [List.nil_append, List.cons_append] at h
    subst h
    simp [hdN] at hr hb
    rw [hr] at hb; simp at hb
  | c :: a, [], r, s, ha, _, _, hs, h => by
    simp only [List.nil_append, List.cons_append] at h
    subst h
    simp [hdN] at hs ha
    rw [hs] at ha; simp at ha
  | c :: a, d :: b, r, s, ha, hb, hr, hs, h => by
    simp only [List.cons_append, List.cons.injEq] at h
    simp only [List.all_cons, Bool.and_eq_true] at ha hb
    obtain ⟨h1, h2⟩ := span_split ha.2 hb.2 hr hs h.2
    exact ⟨by rw [h.1, h1], h2⟩
theorem dl_nm {r : List UInt8} (h : dlB r = true) : hdN nmB r = true := by
  cases r with
  | nil => rfl
  | cons c r =>
    simp [dlB] at h
    rcases h with (rfl | rfl) | rfl <;> rfl
theorem dl_dig {r : List UInt8} (h : dlB r = true) : hdN digB r = true := by
  cases r with
  | nil => rfl
  | cons c r =>
    simp [dlB] at h
    rcases h with (rfl | rfl) | rfl <;> rfl
theorem dl_not {r : List UInt8} {c : UInt8} (h : dlB (c :: r) = true) (h1 : c ≠ 32) (h2 : c ≠ 41) (h3 : c ≠ 44) : False := by
  simp [dlB] at h
  rcases h with (h | h) | h
  · exact h1 h
  · exact h2 h
  · exact h3 h

/-- Neither begins the other. -/
def pfree : List UInt8 → List UInt8 → Bool
  | c :: a, d :: b => c != d || pfree a b
  | _, _ => false
theorem pfree_ne : ∀ {a b u v : List UInt8}, pfree a b = true → a ++ u ≠ b ++ v
  | [], _, _, _, h => by simp [pfree] at h
  | _ :: _, [], _, _, h => by simp [pfree] at h
  | c :: a, d :: b, u, v, h => by
    simp only [pfree, Bool.or_eq_true, bne_iff_ne, ne_eq] at h
    intro e
    simp only [List.cons_append, List.cons.injEq] at e
    rcases h with h | h
    · exact h e.1
    · exact pfree_ne h e.2

/-- The number that digits write. -/
def rdD (n : Nat) (l : List UInt8) : Nat := l.foldl (fun a c => a * 10 + (c.toNat - 48)) n
theorem rdD_acc : ∀ (f m k : Nat) (acc : List UInt8), (decA f m acc).all digB = acc.all digB ∨ acc.all digB = false
  | 0, m, k, acc => .inl rfl
  | f + 1, m, k, acc => by
    rw [decA]
    split
    · exact .inl rfl
    · rcases rdD_acc f (m / 10) k (UInt8.ofNat (48 + m % 10) :: acc) with h | h
      · refine .inl ?_
        rw [h, List.all_cons]
        have : digB (UInt8.ofNat (48 + m % 10)) = true := by unfold digB; rw [digit_nat]; simp; omega
        rw [this]; rfl
      · right
        rw [List.all_cons] at h
        have : digB (UInt8.ofNat (48 + m % 10)) = true := by unfold digB; rw [digit_nat]; simp; omega
        rw [this] at h; simpa using h
theorem dec_dig (n : Nat) : (dec n).all digB = true := by
  rcases rdD_acc 20 n 0 [] with h | h
  · exact h
  · cases h
theorem rdD_cons (n : Nat) (c : UInt8) (l : List UInt8) : rdD n (c :: l) = rdD (n * 10 + (c.toNat - 48)) l := by
  unfold rdD
  rw [List.foldl_cons]
theorem rdD_dec (f : Nat) : ∀ (m : Nat) (acc : List UInt8), m < 10 ^ f → rdD 0 (decA f m acc) = rdD m acc := by
  induction f with
  | zero =>
    intro m acc h
    have : m = 0 := by simp at h; omega
    subst this; rfl
  | succ f ih =>
    intro m acc h
    have h1 : m / 10 < 10 ^ f := by rw [Nat.pow_succ] at h; omega
    have h2 := ih (m / 10) (UInt8.ofNat (48 + m % 10) :: acc) h1
    rw [rdD_cons, digit_nat] at h2
    have e : m / 10 * 10 + (48 + m % 10 - 48) = m := by omega
    rw [e] at h2
    rw [decA]
    split
    · rename_i h1; rw [h1.1]
    · exact h2
theorem rd_dec {n : Nat} (h : n ≤ 9223372036854775807) : rdD 0 (dec n) = n := by
  unfold dec
  rw [rdD_dec 20 n [] (by omega)]; rfl
theorem dec_inj {n m : Nat} (hn : n ≤ 9223372036854775807) (hm : m ≤ 9223372036854775807) (h : dec n = dec m) : n = m := by
  rw [← rd_dec hn, ← rd_dec hm, h]
theorem dec_ne (n : Nat) (h : n ≤ 9223372036854775807) : dec n ≠ [] := by
  rw [dec_digits n h, Lib.decDigits]
  split <;> simp
theorem esc_split : ∀ {a b r s : List UInt8}, hdN (· == 39) r = true → hdN (· == 39) s = true → esc a ++ 39 :: r = esc b ++ 39 :: s → a = b ∧ r = s
  | [], [], r, s, _, _, h => by simp [esc] at h; exact ⟨rfl, h⟩
  | [], c :: b, r, s, hr, _, h => by
    rw [esc, esc] at h
    split at h
    · simp at h
      rw [h] at hr
      rename_i h1
      simp [hdN, h1] at hr
    · simp at h
      rename_i h1
      exact absurd h.1.symm h1
  | c :: a, [], r, s, _, hs, h => by
    rw [esc, esc] at h
    split at h
    · simp at h
      rw [← h] at hs
      rename_i h1
      simp [hdN, h1] at hs
    · simp at h
      rename_i h1
      exact absurd h.1 h1
  | c :: a, d :: b, r, s, hr, hs, h => by
    rw [esc, esc] at h
    by_cases h1 : c = 39
    · by_cases h2 : d = 39
      · rw [if_pos h1, if_pos h2] at h
        simp only [List.cons_append, List.cons.injEq, true_and] at h
        obtain ⟨e1, e2⟩ := esc_split hr hs h.2
        exact ⟨by rw [h.1, e1], e2⟩
      · rw [if_pos h1, if_neg h2] at h
        simp only [List.cons_append, List.cons.injEq] at h
        exact absurd h.1.symm h2
    · by_cases h2 : d = 39
      · rw [if_neg h1, if_pos h2] at h
        simp only [List.cons_append, List.cons.injEq] at h
        exact absurd h.1 h1
      · rw [if_neg h1, if_neg h2] at h
        simp only [List.cons_append, List.cons.injEq] at h
        obtain ⟨e1, e2⟩ := esc_split hr hs h.2
        exact ⟨by rw [h.1, e1], e2⟩

theorem name_all {s : ByteArray} (h : nameB s = true) : s.data.toList.all nmB = true ∧ ∃ c l, s.data.toList = c :: l ∧ digB c = false ∧ nmB c = true := by
  unfold nameB at h
  cases e : s.data.toList with
  | nil => rw [e] at h; cases h
  | cons c l =>
    rw [e] at h
    simp only [Bool.and_eq_true, Bool.not_eq_true'] at h
    refine ⟨h.1.2, c, l, rfl, h.1.1.2, ?_⟩
    have := h.1.2
    rw [List.all_cons, Bool.and_eq_true] at this
    exact this.1
theorem ba_emp {s : ByteArray} (h : emp s = true) : s = ⟨#[]⟩ := by
  unfold emp at h
  rw [ByteArray.toList_eq, List.isEmpty_iff] at h
  exact ba_ext (by rw [h])

theorem col_split {t m t' m' : ByteArray} (h1 : (emp t || nameB t) = true) (h2 : nameB m = true) (h3 : (emp t' || nameB t') = true) (h4 : nameB m' = true) {r s : List UInt8} (hr : dlB r = true) (hs : dlB s = true) (h : colL t m ++ r = colL t' m' ++ s) :
    t = t' ∧ m = m' ∧ r = s := by
  have a2 := (name_all h2).1
  have a4 := (name_all h4).1
  unfold colL at h
  cases et : emp t
  · cases et' : emp t'
    · rw [et] at h1; rw [et'] at h3
      have a1 := (name_all (by simpa using h1)).1
      have a3 := (name_all (by simpa using h3)).1
      simp only [et, et', Bool.false_eq_true, if_false, List.append_assoc, List.cons_append] at h
      obtain ⟨e1, e2⟩ := span_split a1 a3 (by rfl) (by rfl) h
      obtain ⟨e3, e4⟩ := span_split a2 a4 (dl_nm hr) (dl_nm hs) (List.cons.inj e2).2
      exact ⟨ba_ext e1, ba_ext e3, e4⟩
    · rw [et] at h1
      have a1 := (name_all (by simpa using h1)).1
      simp only [et, et', Bool.false_eq_true, if_false, if_true, List.append_assoc, List.cons_append] at h
      obtain ⟨e1, e2⟩ := span_split a1 a4 (by rfl) (dl_nm hs) h
      rw [← e2] at hs
      exact (dl_not hs (by decide) (by decide) (by decide)).elim
  · cases et' : emp t'
    · rw [et'] at h3
      have a3 := (name_all (by simpa using h3)).1
      simp only [et, et', Bool.false_eq_true, if_false, if_true, List.append_assoc, List.cons_append] at h
      obtain ⟨e1, e2⟩ := span_split a2 a3 (dl_nm hr) (by rfl) h
      rw [e2] at hr
      exact (dl_not hr (by decide) (by decide) (by decide)).elim
    · simp only [et, et', if_true] at h
      obtain ⟨e1, e2⟩ := span_split a2 a4 (dl_nm hr) (dl_nm hs) h
      exact ⟨by rw [ba_emp et, ba_emp et'], ba_ext e1, e2⟩

/-- Values that may be, one by one. -/
theorem lit_forms {v : Vl} (h : litB v.k v.n v.s = true) : (v.k = 0 ∧ v.n = 0 ∧ emp v.s = true) ∨ (v.k = 1 ∧ 0 ≤ v.n ∧ emp v.s = true) ∨ (v.k = 2 ∧ (v.n = 0 ∨ v.n = 1) ∧ emp v.s = true) ∨ (v.k = 3 ∧ v.n = 0) := by
  unfold litB mayB at h
  unfold emp
  by_cases h0 : v.k = 0
  · simp [h0] at h; left; refine ⟨h0, h.1, by simpa using h.2⟩
  by_cases h1 : v.k = 1
  · simp [h1] at h; right; left; exact ⟨h1, h.2, by simpa using h.1⟩
  by_cases h2 : v.k = 2
  · simp [h2] at h; right; right; left; exact ⟨h2, h.1, by simpa using h.2⟩
  by_cases h3 : v.k = 3
  · simp [h3] at h; right; right; right; exact ⟨h3, h.1⟩
  · simp [h0, h1, h2, h3] at h
theorem vl_ext {v u : Vl} (h1 : v.k = u.k) (h2 : v.n = u.n) (h3 : v.s = u.s) : v = u := by
  obtain ⟨a, b, c, d⟩ := v
  obtain ⟨a', b', c', d'⟩ := u
  simp only at h1 h2 h3
  subst h1 h2 h3
  rfl
theorem dec_head (n : Nat) (h : n ≤ 9223372036854775807) : ∃ c l, dec n = c :: l ∧ digB c = true := by
  have h1 := dec_ne n h
  have h2 := dec_dig n
  cases e : dec n with
  | nil => exact absurd e h1
  | cons c l => rw [e, List.all_cons, Bool.and_eq_true] at h2; exact ⟨c, l, rfl, h2.1⟩
theorem dig_not {c : UInt8} (h : digB c = true) : c ≠ 78 ∧ c ≠ 84 ∧ c ≠ 70 ∧ c ≠ 39 ∧ c ≠ 40 ∧ c ≠ 67 ∧ c ≠ 83 ∧ c ≠ 77 ∧ c ≠ 42 ∧ c ≠ 45 := by
  refine ⟨?_, ?_, ?_, ?_, ?_, ?_, ?_, ?_, ?_, ?_⟩ <;> (rintro rfl; revert h; decide)
theorem nm_not {c : UInt8} (h : nmB c = true) : c ≠ 78 ∧ c ≠ 84 ∧ c ≠ 70 ∧ c ≠ 39 ∧ c ≠ 40 ∧ c ≠ 67 ∧ c ≠ 83 ∧ c ≠ 77 ∧ c ≠ 42 ∧ c ≠ 45 := by
  refine ⟨?_, ?_, ?_, ?_, ?_, ?_, ?_, ?_, ?_, ?_⟩ <;> (rintro rfl; revert h; decide)

theorem lit_split {v u : Vl} (h1 : litB v.k v.n v.s = true) (h2 : litB u.k u.n u.s = true) {r s : List UInt8} (hr : dlB r = true) (hs : dlB s = true) (h : litL v ++ r = litL u ++ s) : v = u ∧ r = s := by
  have h39 : ∀ {x : List UInt8}, dlB x = true → hdN (· == 39) x = true := by
    intro x hx
    cases x with
    | nil => rfl
    | cons c x =>
      simp [dlB] at hx
      rcases hx with (rfl | rfl) | rfl <;> rfl
  have vb := v.h
  have ub := u.h
  rcases lit_forms h1 with ⟨a1, a2, a3⟩ | ⟨a1, a2, a3⟩ | ⟨a1, a2, a3⟩ | ⟨a1, a2⟩
  · rcases lit_forms h2 with ⟨b1, b2, b3⟩ | ⟨b1, b2, b3⟩ | ⟨b1, b2, b3⟩ | ⟨b1, b2⟩
    · simp only [litL, a1, b1, if_true] at h
      exact ⟨vl_ext (by rw [a1, b1]) (by rw [a2, b2]) (by rw [ba_emp a3, ba_emp b3]), List.append_cancel_left h⟩
    · obtain ⟨c, l, e, hc⟩ := dec_head u.n.toNat (by omega)
      simp only [litL, a1, b1, e] at h
      simp at h
      exact absurd h.1.symm (dig_not hc).1
    · simp only [litL, a1, b1] at h
      rcases b2 with b2 | b2 <;> simp [b2] at h
    · simp only [litL, a1, b1] at h
      simp at h
  · obtain ⟨c, l, e, hc⟩ := dec_head v.n.toNat (by omega)
    rcases lit_forms h2 with ⟨b1, b2, b3⟩ | ⟨b1, b2, b3⟩ | ⟨b1, b2, b3⟩ | ⟨b1, b2⟩
    · simp only [litL, a1, b1, e] at h
      simp at h
      exact absurd h.1 (dig_not hc).1
    · have g : dec v.n.toNat ++ r = dec u.n.toNat ++ s := by simpa [litL, a1, b1] using h
      obtain ⟨e1, e2⟩ := span_split (dec_dig _) (dec_dig _) (dl_dig hr) (dl_dig hs) g
      have := dec_inj (by omega) (by omega) e1
      exact ⟨vl_ext (by rw [a1, b1]) (by omega) (by rw [ba_emp a3, ba_emp b3]), e2⟩
    · simp only [litL, a1, b1, e] at h
      rcases b2 with b2 | b2
      · simp [b2] at h; exact absurd h.1 (dig_not hc).2.2.1
      · simp [b2] at h; exact absurd h.1 (dig_not hc).2.1
    · simp only [litL, a1, b1, e] at h
      simp at h
      exact absurd h.1 (dig_not hc).2.2.2.1
  · rcases lit_forms h2 with ⟨b1, b2, b3⟩ | ⟨b1, b2, b3⟩ | ⟨b1, b2, b3⟩ | ⟨b1, b2⟩
    · simp only [litL, a1, b1] at h
      rcases a2 with a2 | a2 <;> simp [a2] at h
    · obtain ⟨c, l, e, hc⟩ := dec_head u.n.toNat (by omega)
      simp only [litL, a1, b1, e] at h
      rcases a2 with a2 | a2
      · simp [a2] at h; exact absurd h.1.symm (dig_not hc).2.2.1
      · simp [a2] at h; exact absurd h.1.symm (dig_not hc).2.1
    · simp only [litL, a1, b1] at h
      rcases a2 with a2 | a2 <;> rcases b2 with b2 | b2 <;> simp [a2, b2] at h
      · exact ⟨vl_ext (by rw [a1, b1]) (by rw [a2, b2]) (by rw [ba_emp a3, ba_emp b3]), h⟩
      · exact ⟨vl_ext (by rw [a1, b1]) (by rw [a2, b2]) (by rw [ba_emp a3, ba_emp b3]), h⟩
    · simp only [litL, a1, b1] at h
      rcases a2 with a2 | a2 <;> simp [a2] at h
  · rcases lit_forms h2 with ⟨b1, b2, b3⟩ | ⟨b1, b2, b3⟩ | ⟨b1, b2, b3⟩ | ⟨b1, b2⟩
    · simp only [litL, a1, b1] at h
      simp at h
    · obtain ⟨c, l, e, hc⟩ := dec_head u.n.toNat (by omega)
      simp only [litL, a1, b1, e] at h
      simp at h
      exact absurd h.1.symm (dig_not hc).2.2.2.1
    · simp only [litL, a1, b1] at h
      rcases b2 with b2 | b2 <;> simp [b2] at h
    · have g : esc v.s.data.toList ++ 39 :: r = esc u.s.data.toList ++ 39 :: s := by simpa [litL, a1, b1] using h
      obtain ⟨e1, e2⟩ := esc_split (h39 hr) (h39 hs) g
      exact ⟨vl_ext (by rw [a1, b1]) (by rw [a2, b2]) (ba_ext e1), e2⟩

/-- How an expression's print begins. -/
structure Hdx (l : List UInt8) : Prop where
  ne : ∃ c t, l = c :: t ∧ c ≠ 45 ∧ c ≠ 42 ∧ (c = 78 → l = [78, 85, 76, 76])
theorem hd_tab : ∀ k, k < 23 → 2 ≤ k → ∃ c t, (fH k).data.toList = c :: t ∧ c ≠ 45 ∧ c ≠ 42 ∧ c ≠ 78 ∧ c ≠ 84 ∧ c ≠ 70 ∧ c ≠ 39 ∧ digB c = false ∧ nmB c = false := by
  intro k hk h2
  have h : ∀ k, k < 23 → 2 ≤ k → (match (fH k).data.toList with | [] => false | c :: t => c != 45 && c != 42 && c != 78 && c != 84 && c != 70 && c != 39 && !digB c && !nmB c) = true := by decide
  have := h k hk h2
  cases e : (fH k).data.toList with
  | nil => rw [e] at this; cases this
  | cons c t =>
    rw [e] at this
    simp only [Bool.and_eq_true, bne_iff_ne, Bool.not_eq_true'] at this
    exact ⟨c, t, rfl, this.1.1.1.1.1.1.1, this.1.1.1.1.1.1.2, this.1.1.1.1.1.2, this.1.1.1.1.2, this.1.1.1.2, this.1.1.2, this.1.2, this.2⟩
theorem lit_hd {v : Vl} (h : litB v.k v.n v.s = true) : ∃ c t, litL v = c :: t ∧ c ≠ 45 ∧ c ≠ 42 ∧ (c = 78 → litL v = [78, 85, 76, 76]) ∧ (c = 78 ∨ c = 84 ∨ c = 70 ∨ c = 39 ∨ digB c = true) := by
  have vb := v.h
  rcases lit_forms h with ⟨a1, a2, a3⟩ | ⟨a1, a2, a3⟩ | ⟨a1, a2, a3⟩ | ⟨a1, a2⟩
  · refine ⟨78, [85, 76, 76], by simp [litL, a1], by decide, by decide, fun _ => by simp [litL, a1], .inl rfl⟩
  · obtain ⟨c, l, e, hc⟩ := dec_head v.n.toNat (by omega)
    have hn := dig_not hc
    exact ⟨c, l, by simp [litL, a1, e], hn.2.2.2.2.2.2.2.2.2, hn.2.2.2.2.2.2.2.2.1, fun e => absurd e hn.1, .inr (.inr (.inr (.inr hc)))⟩
  · rcases a2 with a2 | a2
    · exact ⟨70, _, by simp [litL, a1, a2]; rfl, by decide, by decide, (fun e => absurd e (by decide)), .inr (.inr (.inl rfl))⟩
    · exact ⟨84, _, by simp [litL, a1, a2]; rfl, by decide, by decide, (fun e => absurd e (by decide)), .inr (.inl rfl)⟩
  · exact ⟨39, _, by simp [litL, a1]; rfl, by decide, by decide, (fun e => absurd e (by decide)), .inr (.inr (.inr (.inl rfl)))⟩
theorem col_hd {t m : ByteArray} (h1 : (emp t || nameB t) = true) (h2 : nameB m = true) : ∃ c u, colL t m = c :: u ∧ digB c = false ∧ nmB c = true := by
  unfold colL
  cases et : emp t
  · rw [et] at h1
    obtain ⟨_, c, l, e, a, b⟩ := name_all (s := t) (by simpa using h1)
    exact ⟨c, l ++ 46 :: m.data.toList, by simp [e], a, b⟩
  · obtain ⟨_, c, l, e, a, b⟩ := name_all h2
    exact ⟨c, l, by simp [e], a, b⟩
/-- A part's own conditions, by its op. -/
theorem part_lit {α : Type} {x : ExN α} (h : partB x = true) (e : x.op = 0) : x.t = ⟨#[]⟩ ∧ x.m = ⟨#[]⟩ ∧ x.l = [] ∧ litB x.v.k x.v.n x.v.s = true := by
  unfold partB at h
  rw [if_pos e, e] at h
  simp only [Bool.and_eq_true, decide_eq_true_eq] at h
  have hl : x.l.length = 0 := by have := h.1; simp [argsI] at this; omega
  exact ⟨ba_emp h.2.1.1, ba_emp h.2.1.2, List.eq_nil_of_length_eq_zero hl, h.2.2⟩
theorem part_col {α : Type} {x : ExN α} (h : partB x = true) (e : x.op = 1) : x.v = vl0 ∧ x.l = [] ∧ (emp x.t || nameB x.t) = true ∧ nameB x.m = true := by
  unfold partB at h
  rw [if_neg (by omega), if_pos e, e] at h
  simp only [Bool.and_eq_true, decide_eq_true_eq] at h
  have hl : x.l.length = 0 := by have := h.1; simp [argsI] at this; omega
  exact ⟨eqV_iff.1 h.2.1.1, List.eq_nil_of_length_eq_zero hl, h.2.1.2, h.2.2⟩
theorem part_op2 {α : Type} {x : ExN α} (h : partB x = true) (e0 : x.op ≠ 0) (e1 : x.op ≠ 1) : x.v = vl0 ∧ x.t = ⟨#[]⟩ ∧ x.m = ⟨#[]⟩ ∧ argsI x.op = x.l.length ∧ 2 ≤ x.op.toNat ∧ x.op.toNat < 23 ∧ (x.op.toNat : Int) = x.op := by
  obtain ⟨⟨h0, h1⟩, h2, h3⟩ := part_op h
  unfold partB at h
  rw [if_neg e0, if_neg e1] at h
  simp only [Bool.and_eq_true, decide_eq_true_eq] at h
  exact ⟨eqV_iff.1 h.2.1.1, ba_emp h.2.1.2, ba_emp h.2.2, h.1, by omega, by omega, by omega⟩
theorem ex_ext {α : Type} {x y : ExN α} (h1 : x.op = y.op) (h2 : x.v = y.v) (h3 : x.t = y.t) (h4 : x.m = y.m) (h5 : x.l = y.l) : x = y := by
  obtain ⟨a, b, c, d, e⟩ := x
  obtain ⟨a', b', c', d', e'⟩ := y
  simp only at h1 h2 h3 h4 h5
  subst h1 h2 h3 h4 h5
  rfl
theorem prL_hd {α : Type} {pr : α → List UInt8} {x : ExN α} (h : partB x = true) : Hdx (prL pr x) := by
  refine ⟨?_⟩
  unfold prL
  by_cases e0 : x.op = 0
  · rw [if_pos e0]
    obtain ⟨c, t, e, h1, h2, h3, _⟩ := lit_hd (part_lit h e0).2.2.2
    exact ⟨c, t, e, h1, h2, h3⟩
  by_cases e1 : x.op = 1
  · rw [if_neg e0, if_pos e1]
    obtain ⟨c, t, e, h1, h2⟩ := col_hd (part_col h e1).2.2.1 (part_col h e1).2.2.2
    have hn := nm_not h2
    exact ⟨c, t, e, hn.2.2.2.2.2.2.2.2.2, hn.2.2.2.2.2.2.2.2.1, fun e => absurd e hn.1⟩
  · rw [if_neg e0, if_neg e1]
    obtain ⟨_, _, _, _, k1, k2, _⟩ := part_op2 h e0 e1
    obtain ⟨c, t, e, h1, h2, h3, _⟩ := hd_tab x.op.toNat k2 k1
    rw [e]
    exact ⟨c, _, rfl, h1, h2, fun e => absurd e h3⟩

theorem list2 {α : Type} {l : List α} (h : l.length = 2) : ∃ a b, l = [a, b] := by
  match l, h with
  | [a, b], _ => exact ⟨a, b, rfl⟩
/-- What stands behind the first Arg. -/
def mid (k : Nat) : List UInt8 := if argsI k = 2 then (fB k).data.toList else (fE k).data.toList
theorem mid_free : ∀ p, p < 18 → ∀ q, q < 18 → 4 ≤ p → 4 ≤ q → p ≠ q → pfree (mid p) (mid q) = true := by decide
theorem mid_dl : ∀ p, p < 23 → 2 ≤ p → p ≠ 18 → ∀ u, dlB (mid p ++ u) = true := by
  have h : ∀ p, p < 23 → 2 ≤ p → p ≠ 18 → (match mid p with | [] => false | c :: t => dlB [c]) = true := by decide
  intro p h1 h2 h3 u
  have := h p h1 h2 h3
  cases e : mid p with
  | nil => rw [e] at this; cases this
  | cons c t => rw [e] at this; exact this
def hdsB (p q : Nat) : Bool := decide (p < 2) || (decide (q < 2) || (p == q || (pfree (fH p).data.toList (fH q).data.toList || ((decide (4 ≤ p) && (decide (p < 18) && (decide (4 ≤ q) && decide (q < 18)))) || (((p == 2 || p == 3) && (decide (4 ≤ q) && decide (q < 18))) || (((q == 2 || q == 3) && (decide (4 ≤ p) && decide (p < 18))) || ((p == 18 && q == 19) || (p == 19 && q == 18))))))))
theorem hdsB_all : ∀ p, p < 23 → ∀ q, q < 23 → hdsB p q = true := by decide
theorem hds_free (p : Nat) (hp : p < 23) (q : Nat) (hq : q < 23) (h1 : 2 ≤ p) (h2 : 2 ≤ q) (h3 : p ≠ q) : pfree (fH p).data.toList (fH q).data.toList = true ∨ (4 ≤ p ∧ p < 18 ∧ 4 ≤ q ∧ q < 18) ∨ ((p = 2 ∨ p = 3) ∧ 4 ≤ q ∧ q < 18) ∨ ((q = 2 ∨ q = 3) ∧ 4 ≤ p ∧ p < 18) ∨ (p = 18 ∧ q = 19) ∨ (p = 19 ∧ q = 18) := by
  have h := hdsB_all p hp q hq
  simp only [hdsB, Bool.or_eq_true, Bool.and_eq_true, decide_eq_true_eq, beq_iff_eq] at h
  rcases h with h | h | h | h | h | h | h | h | h
  · omega
  · omega
  · exact absurd h h3
  · exact .inl h
  · exact .inr (.inl h)
  · exact .inr (.inr (.inl h))
  · exact .inr (.inr (.inr (.inl h)))
  · exact .inr (.inr (.inr (.inr (.inl h))))
  · exact .inr (.inr (.inr (.inr (.inr h))))
theorem fH_open : ∀ p, p < 18 → 4 ≤ p → (fH p).data.toList = [40] := by decide
theorem args_two : ∀ k, k < 23 → argsI (k : Nat) = 2 → 4 ≤ k ∧ k < 16 := by decide
theorem args_one : ∀ k, k < 23 → argsI (k : Nat) = 1 → 2 ≤ k ∧ k ≠ 18 := by decide
theorem args_none : ∀ k, k < 23 → 2 ≤ k → argsI (k : Nat) = 0 → k = 18 := by decide
theorem args_some : ∀ k, k < 23 → argsI (k : Nat) = 0 ∨ argsI (k : Nat) = 1 ∨ argsI (k : Nat) = 2 := by decide
theorem fE_two : ∀ k, k < 16 → 4 ≤ k → (fE k).data.toList = [41] := by decide
/-- The print of an expression with Args, its first Arg apart. -/
theorem pr_first {α : Type} {pr : α → List UInt8} {x : ExN α} (h : partB x = true) (e0 : x.op ≠ 0) (e1 : x.op ≠ 1) (e18 : x.op ≠ 18) (hpr : ∀ y, y ∈ x.l → True) :
    ∃ a us, x.l = a :: us ∧ (argsI x.op = 1 ∧ us = [] ∨ ∃ b, argsI x.op = 2 ∧ us = [b]) ∧ ∀ r, prL pr x ++ r = (fH x.op.toNat).data.toList ++ (pr a ++ (mid x.op.toNat ++ ((match us with | [] => [] | b :: _ => pr b ++ (fE x.op.toNat).data.toList) ++ r))) := by
  obtain ⟨_, _, _, hl, k1, k2, k3⟩ := part_op2 h e0 e1
  have hk : argsI (x.op.toNat : Int) = argsI x.op := by rw [k3]
  rcases args_some x.op.toNat k2 with h3 | h3 | h3
  · have := args_none _ k2 k1 h3
    omega
  · rw [hk] at h3
    rw [h3] at hl
    have : x.l.length = 1 := by omega
    obtain ⟨a, ha⟩ := List.length_eq_one_iff.1 this
    refine ⟨a, [], ha, .inl ⟨h3, rfl⟩, fun r => ?_⟩
    unfold prL mid
    rw [if_neg e0, if_neg e1, ha, if_neg (by rw [hk, h3]; decide)]
    simp [joinL]
  · rw [hk] at h3
    rw [h3] at hl
    have : x.l.length = 2 := by omega
    obtain ⟨a, b, ha⟩ := list2 this
    refine ⟨a, [b], ha, .inr ⟨b, h3, rfl⟩, fun r => ?_⟩
    unfold prL mid
    rw [if_neg e0, if_neg e1, ha, if_pos (by rw [hk, h3])]
    simp [joinL]
theorem pr_all {α : Type} {pr : α → List UInt8} {x : ExN α} (h : partB x = true) (e18 : x.op = 18) : x.l = [] ∧ ∀ r, prL pr x ++ r = (fH 18).data.toList ++ 41 :: r := by
  obtain ⟨_, _, _, hl, k1, k2, k3⟩ := part_op2 h (by omega) (by omega)
  rw [e18] at hl
  have : x.l = [] := List.eq_nil_of_length_eq_zero (by simp [argsI] at hl; omega)
  refine ⟨this, fun r => ?_⟩
  unfold prL
  rw [if_neg (by omega), if_neg (by omega), this, e18]
  rfl

/-- Prints of these end where they end. -/
def Splits {α : Type} (ok : α → Prop) (D : List UInt8 → Prop) (f : α → List UInt8) : Prop := ∀ y y', ok y → ok y' → ∀ r s, D r → D s → f y ++ r = f y' ++ s → y = y' ∧ r = s

set_option maxHeartbeats 1000000 in
theorem pr_step {α : Type} {pr : α → List UInt8} {ok : α → Prop} (hpr : ∀ y, ok y → Hdx (pr y)) (ih : Splits ok (dlB · = true) pr) (x y : ExN α) (hx : partB x = true) (hy : partB y = true) (hxl : ∀ z ∈ x.l, ok z) (hyl : ∀ z ∈ y.l, ok z)
    (r s : List UInt8) (hr : dlB r = true) (hs : dlB s = true) (h : prL pr x ++ r = prL pr y ++ s) : x = y ∧ r = s := by
  by_cases x0 : x.op = 0
  · obtain ⟨xt, xm, xl, xv⟩ := part_lit hx x0
    obtain ⟨c, t, e, c1, c2, c3, c4⟩ := lit_hd xv
    by_cases y0 : y.op = 0
    · obtain ⟨yt, ym, yl, yv⟩ := part_lit hy y0
      unfold prL at h
      rw [if_pos x0, if_pos y0] at h
      obtain ⟨e1, e2⟩ := lit_split xv yv hr hs h
      exact ⟨ex_ext (by rw [x0, y0]) e1 (by rw [xt, yt]) (by rw [xm, ym]) (by rw [xl, yl]), e2⟩
    by_cases y1 : y.op = 1
    · obtain ⟨_, _, yt, ym⟩ := part_col hy y1
      obtain ⟨d, u, e', d1, d2⟩ := col_hd yt ym
      unfold prL at h
      rw [if_pos x0, if_neg y0, if_pos y1, e, e'] at h
      simp only [List.cons_append, List.cons.injEq] at h
      have hn := nm_not d2
      rw [← h.1] at hn d1
      rcases c4 with c4 | c4 | c4 | c4 | c4
      · exact absurd c4 hn.1
      · exact absurd c4 hn.2.1
      · exact absurd c4 hn.2.2.1
      · exact absurd c4 hn.2.2.2.1
      · rw [d1] at c4; cases c4
    · obtain ⟨_, _, _, _, k1, k2, _⟩ := part_op2 hy y0 y1
      obtain ⟨d, u, e', d1, d2, d3, d4, d5, d6, d7, d8⟩ := hd_tab _ k2 k1
      unfold prL at h
      rw [if_pos x0, if_neg y0, if_neg y1, e, e'] at h
      simp only [List.cons_append, List.cons.injEq] at h
      rw [← h.1] at d3 d4 d5 d6 d7
      rcases c4 with c4 | c4 | c4 | c4 | c4
      · exact absurd c4 d3
      · exact absurd c4 d4
      · exact absurd c4 d5
      · exact absurd c4 d6
      · rw [d7] at c4; cases c4
  by_cases x1 : x.op = 1
  · obtain ⟨xv, xl, xt, xm⟩ := part_col hx x1
    obtain ⟨c, t, e, c1, c2⟩ := col_hd xt xm
    have hn := nm_not c2
    by_cases y0 : y.op = 0
    · obtain ⟨yt, ym, yl, yv⟩ := part_lit hy y0
      obtain ⟨d, u, e', d1, d2, d3, d4⟩ := lit_hd yv
      unfold prL at h
      rw [if_neg x0, if_pos x1, if_pos y0, e, e'] at h
      simp only [List.cons_append, List.cons.injEq] at h
      rw [h.1] at hn c1
      rcases d4 with c4 | c4 | c4 | c4 | c4
      · exact absurd c4 hn.1
      · exact absurd c4 hn.2.1
      · exact absurd c4 hn.2.2.1
      · exact absurd c4 hn.2.2.2.1
      · rw [c1] at c4; cases c4
    by_cases y1 : y.op = 1
    · obtain ⟨yv, yl, yt, ym⟩ := part_col hy y1
      unfold prL at h
      rw [if_neg x0, if_pos x1, if_neg y0, if_pos y1] at h
      obtain ⟨e1, e2, e3⟩ := col_split xt xm yt ym hr hs h
      exact ⟨ex_ext (by rw [x1, y1]) (by rw [xv, yv]) e1 e2 (by rw [xl, yl]), e3⟩
    · obtain ⟨_, _, _, _, k1, k2, _⟩ := part_op2 hy y0 y1
      obtain ⟨d, u, e', d1, d2, d3, d4, d5, d6, d7, d8⟩ := hd_tab _ k2 k1
      unfold prL at h
      rw [if_neg x0, if_pos x1, if_neg y0, if_neg y1, e, e'] at h
      simp only [List.cons_append, List.cons.injEq] at h
      rw [← h.1] at d8
      rw [c2] at d8; cases d8
  obtain ⟨xv, xt, xm, xa, i1, i2, i3⟩ := part_op2 hx x0 x1
  obtain ⟨c, t, e, c1, c2, c3, c4, c5, c6, c7, c8⟩ := hd_tab _ i2 i1
  by_cases y0 : y.op = 0
  · obtain ⟨yt, ym, yl, yv⟩ := part_lit hy y0
    obtain ⟨d, u, e', d1, d2, d3, d4⟩ := lit_hd yv
    unfold prL at h
    rw [if_neg x0, if_neg x1, if_pos y0, e, e'] at h
    simp only [List.cons_append, List.cons.injEq] at h
    rw [h.1] at c3 c4 c5 c6 c7
    rcases d4 with d4 | d4 | d4 | d4 | d4
    · exact absurd d4 c3
    · exact absurd d4 c4
    · exact absurd d4 c5
    · exact absurd d4 c6
    · rw [c7] at d4; cases d4
  by_cases y1 : y.op = 1
  · obtain ⟨_, _, yt, ym⟩ := part_col hy y1
    obtain ⟨d, u, e', d1, d2⟩ := col_hd yt ym
    unfold prL at h
    rw [if_neg x0, if_neg x1, if_neg y0, if_pos y1, e, e'] at h
    simp only [List.cons_append, List.cons.injEq] at h
    rw [h.1, d2] at c8; cases c8
  obtain ⟨yv, yt, ym, ya, j1, j2, j3⟩ := part_op2 hy y0 y1
  have same : x.op = y.op → x.l = y.l → x = y := fun h1 h2 => ex_ext h1 (by rw [xv, yv]) (by rw [xt, yt]) (by rw [xm, ym]) h2
  by_cases x18 : x.op = 18
  · obtain ⟨xl, xp⟩ := pr_all (pr := pr) hx x18
    rw [xp] at h
    by_cases y18 : y.op = 18
    · obtain ⟨yl, yp⟩ := pr_all (pr := pr) hy y18
      rw [yp] at h
      have h1 := List.append_cancel_left h
      exact ⟨same (by rw [x18, y18]) (by rw [xl, yl]), (List.cons.inj h1).2⟩
    · obtain ⟨a, us, ya1, ya2, yp⟩ := pr_first (pr := pr) hy y0 y1 y18 (fun _ _ => trivial)
      rw [yp] at h
      have hf := hds_free 18 (by decide) y.op.toNat j2 (by decide) j1 (by omega)
      rcases hf with hf | hf | hf | hf | hf | hf
      · exact absurd h (pfree_ne hf)
      · omega
      · omega
      · omega
      · obtain ⟨c, t, e, q1, q2, q3⟩ := (hpr a (hyl a (by rw [ya1]; simp))).ne
        rw [hf.2, e] at h
        have h2 : (fH 18).data.toList = (fH 19).data.toList ++ [42] := by decide
        rw [h2, List.append_assoc] at h
        have h1 := List.append_cancel_left h
        simp only [List.cons_append, List.cons.injEq] at h1
        exact absurd h1.1.symm q2
      · omega
  · obtain ⟨a, us, xa1, xa2, xp⟩ := pr_first (pr := pr) hx x0 x1 x18 (fun _ _ => trivial)
    rw [xp] at h
    have oka := hxl a (by rw [xa1]; simp)
    obtain ⟨c', t', e', q1, q2, q3⟩ := (hpr a oka).ne
    by_cases y18 : y.op = 18
    · obtain ⟨yl, yp⟩ := pr_all (pr := pr) hy y18
      rw [yp] at h
      have hf := hds_free x.op.toNat i2 18 (by decide) i1 (by decide) (by omega)
      rcases hf with hf | hf | hf | hf | hf | hf
      · exact absurd h (pfree_ne hf)
      · omega
      · omega
      · omega
      · omega
      · rw [hf.1, e'] at h
        have h2 : (fH 18).data.toList = (fH 19).data.toList ++ [42] := by decide
        rw [h2, List.append_assoc] at h
        have h1 := List.append_cancel_left h
        simp only [List.cons_append, List.cons.injEq] at h1
        exact absurd h1.1 q2
    · obtain ⟨b, bs, ya1, ya2, yp⟩ := pr_first (pr := pr) hy y0 y1 y18 (fun _ _ => trivial)
      rw [yp] at h
      have okb := hyl b (by rw [ya1]; simp)
      obtain ⟨d', u', f', p1, p2, p3⟩ := (hpr b okb).ne
      have mx := mid_dl x.op.toNat i2 i1 (by omega)
      have my := mid_dl y.op.toNat j2 j1 (by omega)
      by_cases hpq : x.op.toNat = y.op.toNat
      · have hop : x.op = y.op := by omega
        rw [hpq] at h mx
        have h1 := List.append_cancel_left h
        obtain ⟨e1, e2⟩ := ih a b oka okb _ _ (mx _) (my _) h1
        have e3 := List.append_cancel_left e2
        rcases xa2 with ⟨k1, k2⟩ | ⟨a2, k1, k2⟩
        · rcases ya2 with ⟨l1, l2⟩ | ⟨b2, l1, l2⟩
          · subst k2 l2
            exact ⟨same hop (by rw [xa1, ya1, e1]), by simpa using e3⟩
          · rw [hop, l1] at k1; cases k1
        · rcases ya2 with ⟨l1, l2⟩ | ⟨b2, l1, l2⟩
          · rw [hop, l1] at k1; cases k1
          · subst k2 l2
            have ha := args_two y.op.toNat j2 (by rw [j3, l1])
            rw [fE_two _ ha.2 ha.1] at e3
            simp only [List.append_assoc, List.cons_append, List.nil_append] at e3
            obtain ⟨g1, g2⟩ := ih a2 b2 (hxl _ (by rw [xa1]; simp)) (hyl _ (by rw [ya1]; simp)) _ _ (by rfl) (by rfl) e3
            exact ⟨same hop (by rw [xa1, ya1, e1, g1]), (List.cons.inj g2).2⟩
      · exfalso
        have nul : ∀ (p : Nat) (z w : List UInt8), (p = 2 ∨ p = 3) → ∀ (cc : UInt8) (tt : List UInt8) (aa mm : List UInt8), aa = cc :: tt → cc ≠ 45 → (cc = 78 → aa = [78, 85, 76, 76]) → (fH p).data.toList ++ z = 40 :: (aa ++ mm) → False := by
          intro p z w hp cc tt aa mm haa n1 n2 hh
          rcases hp with rfl | rfl
          · have h2 : (fH 2).data.toList = [40, 45] := by decide
            rw [h2, haa] at hh
            simp only [List.cons_append, List.cons.injEq, true_and] at hh
            exact n1 hh.1.symm
          · have h2 : (fH 3).data.toList = [40, 78, 79, 84, 32] := by decide
            rw [h2] at hh
            have h3 : cc = 78 := by
              rw [haa] at hh
              simp only [List.cons_append, List.cons.injEq, true_and] at hh
              exact hh.1.symm
            rw [n2 h3] at hh
            simp at hh
        rcases hds_free x.op.toNat i2 y.op.toNat j2 i1 j1 hpq with hf | hf | hf | hf | hf | hf
        · exact pfree_ne hf h
        · rw [fH_open _ hf.2.1 hf.1, fH_open _ hf.2.2.2 hf.2.2.1] at h
          obtain ⟨e1, e2⟩ := ih a b oka okb _ _ (mx _) (my _) (List.cons.inj h).2
          exact pfree_ne (mid_free _ hf.2.1 _ hf.2.2.2 hf.1 hf.2.2.1 hpq) e2
        · rw [fH_open _ hf.2.2 hf.2.1] at h
          exact nul _ _ [] hf.1 _ _ _ _ f' p1 p3 h
        · rw [fH_open _ hf.2.2 hf.2.1] at h
          exact nul _ _ [] hf.1 _ _ _ _ e' q1 q3 h.symm
        · omega
        · omega

theorem prA_splits : ∀ n, Splits (fun y : Ar n => okP n y = true) (dlB · = true) (prA n)
  | 0 => fun (y : Ar 0) => Empty.elim y
  | n + 1 => fun (x y : ExN (Ar n)) hx hy r s hr hs h => by
    have hx' : (partB x && x.l.all (okP n)) = true := hx
    have hy' : (partB y && y.l.all (okP n)) = true := hy
    simp only [Bool.and_eq_true] at hx' hy'
    exact pr_step (pr := prA n) (ok := fun z => okP n z = true) (fun z hz => by
      rw [okP_e] at hz
      rw [prA_e]
      unfold okX at hz
      rw [Bool.and_eq_true] at hz
      exact prL_hd hz.1) (prA_splits n) x y hx'.1 hy'.1 (fun z hz => List.all_eq_true.1 hx'.2 z hz) (fun z hz => List.all_eq_true.1 hy'.2 z hz) r s hr hs h
theorem prX_splits {n : Nat} : Splits (fun x : ExN (Ar n) => okX x = true) (dlB · = true) prX := fun x y hx hy r s hr hs h => prA_splits (n + 1) (x : ExN (Ar n)) (y : ExN (Ar n)) hx hy r s hr hs h

/-- Lists of such, with a text between that one may stand ahead of. -/
theorem join_splits {α : Type} {f : α → List UInt8} {ok : α → Prop} {D : List UInt8 → Prop} {c : UInt8} {t : List UInt8} (hf : Splits ok D f) (hsep : ∀ u, D (c :: t ++ u)) :
    ∀ (l l' : List α), l ≠ [] → l' ≠ [] → (∀ z ∈ l, ok z) → (∀ z ∈ l', ok z) → ∀ r s, D r → D s → hdN (· == c) r = true → hdN (· == c) s = true → joinL (c :: t) (l.map f) ++ r = joinL (c :: t) (l'.map f) ++ s → l = l' ∧ r = s
  | [], _, h, _, _, _, _, _, _, _, _, _, _ => absurd rfl h
  | _ :: _, [], _, h, _, _, _, _, _, _, _, _, _ => absurd rfl h
  | [a], [b], _, _, hl, hl', r, s, hr, hs, hc, hc', h => by
    obtain ⟨e1, e2⟩ := hf a b (hl a (by simp)) (hl' b (by simp)) r s hr hs h
    exact ⟨by rw [e1], e2⟩
  | [a], b :: b' :: l', _, _, hl, hl', r, s, hr, hs, hc, hc', h => by
    simp only [List.map_cons, List.map_nil, joinL, List.append_assoc] at h
    obtain ⟨e1, e2⟩ := hf a b (hl a (by simp)) (hl' b (by simp)) r _ hr (hsep _) h
    rw [e2] at hc
    simp [hdN] at hc
  | a :: a' :: l, [b], _, _, hl, hl', r, s, hr, hs, hc, hc', h => by
    simp only [List.map_cons, List.map_nil, joinL, List.append_assoc] at h
    obtain ⟨e1, e2⟩ := hf a b (hl a (by simp)) (hl' b (by simp)) _ s (hsep _) hs h
    rw [← e2] at hc'
    simp [hdN] at hc'
  | a :: a' :: l, b :: b' :: l', _, _, hl, hl', r, s, hr, hs, hc, hc', h => by
    simp only [List.map_cons, joinL, List.append_assoc] at h
    obtain ⟨e1, e2⟩ := hf a b (hl a (by simp)) (hl' b (by simp)) _ _ (hsep _) (hsep _) h
    have e3 := List.append_cancel_left e2
    have h2 : joinL (c :: t) ((a' :: l).map f) ++ r = joinL (c :: t) ((b' :: l').map f) ++ s := e3
    obtain ⟨g1, g2⟩ := join_splits hf hsep (a' :: l) (b' :: l') (by simp) (by simp) (fun z hz => hl z (List.mem_cons_of_mem _ hz)) (fun z hz => hl' z (List.mem_cons_of_mem _ hz)) r s hr hs hc hc' h2
    exact ⟨by rw [e1, g1], g2⟩
end Go.Proofs.YtnbgnofbeklmkaaGreatDoor
