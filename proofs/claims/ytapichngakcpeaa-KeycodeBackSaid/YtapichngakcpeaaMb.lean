/- The order of keys is the order of values; no value's key begins another's; the least text above a text: plain mathematics. Conditions: values that may be, numbers of 64 bits. -/
import Derived.Test.YtapichngakcpeaaMa
namespace Go.Proofs.Ytapichngakcpeaa
set_option linter.unusedSimpArgs false
set_option linter.unusedVariables false

def ordI (a b : Int) : Int := if a < b then -1 else if a = b then 0 else 1
/-- The amount of a number: itself, or what is below -1. -/
def amt (n : Int) : Nat := if n < 0 then (-n - 1).toNat else n.toNat
def numK (n : Int) : List UInt8 := (if n < 0 then oct (63 - need (amt n)) else oct (64 + need (amt n))) :: octs (need (amt n)) n
def esc1 (c : UInt8) : List UInt8 := if c = 0 then [1, 1] else if c = 1 then [1, 2] else [c]
def esc : List UInt8 → List UInt8
  | [] => []
  | c :: l => esc1 c ++ esc l
def textK (l : List UInt8) : List UInt8 := 96 :: (esc l ++ [0])
def enc1 (v : Vl) : List UInt8 := if v.k = 1 then numK v.n else if v.k = 2 then [oct (80 + v.n)] else if v.k = 3 then textK v.s.data.toList else [4]
def encL : List Vl → List UInt8
  | [] => []
  | v :: l => enc1 v ++ encL l
theorem encL_append (l m : List Vl) : encL (l ++ m) = encL l ++ encL m := by
  induction l with
  | nil => rfl
  | cons v l ih => simp [encL, ih]

def ordV (v w : Vl) : Int :=
  if v.k ≠ w.k then ordI v.k w.k else if v.k = 1 ∨ v.k = 2 then ordI v.n w.n else if v.k = 3 then cmpL v.s.data.toList w.s.data.toList else 0
def cmpV : List Vl → List Vl → Int
  | [], [] => 0
  | [], _ :: _ => -1
  | _ :: _, [] => 1
  | v :: l, w :: m => if ordV v w = 0 then cmpV l m else ordV v w
/-- A value that may be, its number of 64 bits. -/
def okV (v : Vl) : Prop := mayB v.k v.n v.s = true ∧ inR v.n = true
def okL (l : List Vl) : Prop := ∀ v ∈ l, okV v

theorem ordI_self (a : Int) : ordI a a = 0 := by simp [ordI]
theorem ordI_zero {a b : Int} : ordI a b = 0 ↔ a = b := by
  unfold ordI
  repeat' split
  all_goals omega

theorem oct_lt {a b : Int} (h0 : 0 ≤ a) (h : a < b) (h1 : b < 256) : oct a < oct b := by
  have ha := oct_toNat a
  have hb := oct_toNat b
  show (oct a).toNat < (oct b).toNat
  omega
theorem cmpL_lt {a b : UInt8} (h : a < b) (x y : List UInt8) : cmpL (a :: x) (b :: y) = -1 := by simp [cmpL, h]
theorem cmpL_gt {a b : UInt8} (h : b < a) (x y : List UInt8) : cmpL (a :: x) (b :: y) = 1 := by
  have : ¬ a < b := fun h' => UInt8.lt_irrefl a (UInt8.lt_trans h' h)
  simp [cmpL, h, this]
theorem cmpL_eq (a : UInt8) (x y : List UInt8) : cmpL (a :: x) (a :: y) = cmpL x y := by
  have : ¬ a < a := UInt8.lt_irrefl a
  simp [cmpL, this]

theorem cmp_octs : ∀ (k : Nat) (a b : Int) (x y : List UInt8), a / 256 ^ k = b / 256 ^ k → cmpL (octs k a ++ x) (octs k b ++ y) = if a = b then cmpL x y else ordI a b
  | 0, a, b, x, y, h => by
    have : a = b := by simpa using h
    subst this; simp [octs]
  | k + 1, a, b, x, y, h => by
    have hd : a / 256 / 256 ^ k = b / 256 / 256 ^ k := by
      rw [Int.ediv_ediv_of_nonneg (by omega), Int.ediv_ediv_of_nonneg (by omega), Int.mul_comm 256, ← Int.pow_succ]; exact h
    simp only [octs, List.append_assoc, List.singleton_append]
    rw [cmp_octs k (a / 256) (b / 256) _ _ hd]
    by_cases hq : a / 256 = b / 256
    · rw [if_pos hq]
      have ha := oct_toNat a
      have hb := oct_toNat b
      by_cases he : a = b
      · subst he; rw [cmpL_eq, if_pos rfl]
      · rw [if_neg he]
        unfold ordI
        by_cases hl : a < b
        · rw [if_pos hl, cmpL_lt (show (oct a).toNat < (oct b).toNat by omega)]
        · rw [if_neg hl, if_neg he, cmpL_gt (show (oct b).toNat < (oct a).toNat by omega)]
    · have he : ¬ a = b := by intro e; subst e; exact hq rfl
      rw [if_neg hq, if_neg he]
      unfold ordI
      by_cases hl : a < b
      · rw [if_pos hl, if_pos (by omega)]
      · rw [if_neg hl, if_neg he, if_neg (by omega), if_neg hq]

theorem need8 {n : Int} (h : inR n = true) : need (amt n) ≤ 8 := by
  rw [inR_iff] at h
  refine need_le 8 _ ?_
  unfold amt
  have : (256 : Nat) ^ 8 = 18446744073709551616 := by decide
  split <;> omega
theorem amt_lt (n : Int) : amt n < 256 ^ need (amt n) := lt_need _ _ (Nat.le_refl _)
theorem pow_pos' (k : Nat) : (0 : Int) < 256 ^ k := Int.pow_pos (by omega)
theorem div_neg {n : Int} {k : Nat} (h : n < 0) (hk : amt n < 256 ^ k) : n / 256 ^ k = -1 := by
  unfold amt at hk
  rw [if_pos h] at hk
  have h1 : (-n - 1) < 256 ^ k := by
    have : ((-n - 1).toNat : Int) < ((256 ^ k : Nat) : Int) := by omega
    rw [Int.natCast_pow] at this
    have e : ((256 : Nat) : Int) = 256 := rfl
    rw [e] at this
    omega
  have hp := pow_pos' k
  generalize (256 : Int) ^ k = P at *
  have h2 := Int.emod_nonneg n (show P ≠ 0 by omega)
  have h3 := Int.emod_lt_of_pos n hp
  have h4 := Int.emod_add_mul_ediv n P
  have h5 : n / P < 0 := Int.ediv_neg_of_neg_of_pos h hp
  have h6 : -1 ≤ n / P := by
    rw [Int.le_ediv_iff_mul_le hp]; omega
  omega
theorem div_nonneg' {n : Int} {k : Nat} (h : ¬ n < 0) (hk : amt n < 256 ^ k) : n / 256 ^ k = 0 := by
  unfold amt at hk
  rw [if_neg h] at hk
  have h1 : n < 256 ^ k := by
    have : (n.toNat : Int) < ((256 ^ k : Nat) : Int) := by omega
    rw [Int.natCast_pow] at this
    have e : ((256 : Nat) : Int) = 256 := rfl
    rw [e] at this
    omega
  exact Int.ediv_eq_zero_of_lt (by omega) h1

theorem cmp_num (a b : Int) (ha : inR a = true) (hb : inR b = true) (x y : List UInt8) : cmpL (numK a ++ x) (numK b ++ y) = if a = b then cmpL x y else ordI a b := by
  have na := need8 ha
  have nb := need8 hb
  have la := amt_lt a
  have lb := amt_lt b
  unfold numK
  simp only [List.cons_append]
  by_cases h1 : a < 0 <;> by_cases h2 : b < 0
  · rw [if_pos h1, if_pos h2]
    rcases Nat.lt_trichotomy (need (amt a)) (need (amt b)) with hk | hk | hk
    · have hlt := lt_of_need_lt hk
      have h3 : b < a := by unfold amt at hlt; rw [if_pos h1, if_pos h2] at hlt; omega
      rw [cmpL_gt (oct_lt (by omega) (by omega) (by omega)), if_neg (by omega)]
      unfold ordI
      rw [if_neg (by omega), if_neg (by omega)]
    · rw [hk, cmpL_eq]
      rw [hk] at la
      exact cmp_octs _ _ _ _ _ ((div_neg h1 la).trans (div_neg h2 lb).symm)
    · have hlt := lt_of_need_lt hk
      have h3 : a < b := by unfold amt at hlt; rw [if_pos h1, if_pos h2] at hlt; omega
      rw [cmpL_lt (oct_lt (by omega) (by omega) (by omega)), if_neg (by omega)]
      unfold ordI
      rw [if_pos (by omega)]
  · rw [if_pos h1, if_neg h2, cmpL_lt (oct_lt (by omega) (by omega) (by omega)), if_neg (by omega)]
    unfold ordI
    rw [if_pos (by omega)]
  · rw [if_neg h1, if_pos h2, cmpL_gt (oct_lt (by omega) (by omega) (by omega)), if_neg (by omega)]
    unfold ordI
    rw [if_neg (by omega), if_neg (by omega)]
  · rw [if_neg h1, if_neg h2]
    rcases Nat.lt_trichotomy (need (amt a)) (need (amt b)) with hk | hk | hk
    · have hlt := lt_of_need_lt hk
      have h3 : a < b := by unfold amt at hlt; rw [if_neg h1, if_neg h2] at hlt; omega
      rw [cmpL_lt (oct_lt (by omega) (by omega) (by omega)), if_neg (by omega)]
      unfold ordI
      rw [if_pos (by omega)]
    · rw [hk, cmpL_eq]
      rw [hk] at la
      exact cmp_octs _ _ _ _ _ ((div_nonneg' h1 la).trans (div_nonneg' h2 lb).symm)
    · have hlt := lt_of_need_lt hk
      have h3 : b < a := by unfold amt at hlt; rw [if_neg h1, if_neg h2] at hlt; omega
      rw [cmpL_gt (oct_lt (by omega) (by omega) (by omega)), if_neg (by omega)]
      unfold ordI
      rw [if_neg (by omega), if_neg (by omega)]

theorem u8_lt_or (c d : UInt8) : c < d ∨ c = d ∨ d < c := by
  rcases Nat.lt_trichotomy c.toNat d.toNat with h | h | h
  · exact .inl h
  · exact .inr (.inl (UInt8.toNat_inj.1 h))
  · exact .inr (.inr h)
theorem esc1_head (c : UInt8) : ∃ b t, esc1 c = b :: t ∧ (0 : UInt8) < b := by
  unfold esc1
  by_cases h0 : c = 0
  · exact ⟨1, [1], by simp [h0], by decide⟩
  · by_cases h1 : c = 1
    · exact ⟨1, [2], by simp [h0, h1], by decide⟩
    · refine ⟨c, [], by simp [h0, h1], ?_⟩
      have : c.toNat ≠ 0 := fun e => h0 (UInt8.toNat_inj.1 (by simpa using e))
      show (0 : UInt8).toNat < c.toNat
      simp; omega
theorem esc1_lt {c d : UInt8} (h : c < d) (x y : List UInt8) : cmpL (esc1 c ++ x) (esc1 d ++ y) = -1 := by
  have hn : c.toNat < d.toNat := h
  have h2 : ∀ e : UInt8, e ≠ 0 → e ≠ 1 → 1 < e.toNat := by
    intro e h0 h1
    have a0 : e.toNat ≠ 0 := fun x => h0 (UInt8.toNat_inj.1 (by simpa using x))
    have a1 : e.toNat ≠ 1 := fun x => h1 (UInt8.toNat_inj.1 (by simpa using x))
    omega
  unfold esc1
  by_cases c0 : c = 0
  · subst c0
    by_cases d0 : d = 0
    · subst d0; simp at hn
    · by_cases d1 : d = 1
      · subst d1; simp [cmpL]
      · have := h2 d d0 d1
        have h3 : (1 : UInt8) < d := by show (1 : UInt8).toNat < d.toNat; simpa using this
        simp [d0, d1, cmpL, h3]
  · by_cases c1 : c = 1
    · subst c1
      by_cases d0 : d = 0
      · subst d0; simp at hn
      · by_cases d1 : d = 1
        · subst d1; simp at hn
        · have := h2 d d0 d1
          have h3 : (1 : UInt8) < d := by show (1 : UInt8).toNat < d.toNat; simpa using this
          simp [d0, d1, cmpL, h3]
    · have hc := h2 c c0 c1
      have d0 : ¬ d = 0 := by intro e; subst e; simp at hn
      have d1 : ¬ d = 1 := by intro e; subst e; simp at hn; omega
      simp [c0, c1, d0, d1, cmpL, h]
theorem cmpL_swap : ∀ a b, cmpL b a = - cmpL a b
  | [], [] => rfl
  | [], _ :: _ => rfl
  | _ :: _, [] => rfl
  | a :: x, b :: y => by
    rcases u8_lt_or a b with h | h | h
    · rw [cmpL_lt h, cmpL_gt h]; rfl
    · subst h; rw [cmpL_eq, cmpL_eq, cmpL_swap x y]
    · rw [cmpL_lt h, cmpL_gt h]

theorem cmp_esc : ∀ (s t x y : List UInt8), cmpL (esc s ++ (0 :: x)) (esc t ++ (0 :: y)) = if s = t then cmpL x y else cmpL s t
  | [], [], x, y => by simp [esc, cmpL_eq]
  | [], d :: t, x, y => by
    obtain ⟨b, r, he, hb⟩ := esc1_head d
    simp [esc, he, cmpL_lt hb, cmpL]
  | c :: s, [], x, y => by
    obtain ⟨b, r, he, hb⟩ := esc1_head c
    simp [esc, he, cmpL_gt hb, cmpL]
  | c :: s, d :: t, x, y => by
    simp only [esc, List.append_assoc]
    rcases u8_lt_or c d with h | h | h
    · rw [esc1_lt h, cmpL_lt h, if_neg (by intro e; injection e with e1; subst e1; exact UInt8.lt_irrefl _ h)]
    · subst h
      rw [cmpL_same, cmp_esc s t, cmpL_eq]
      by_cases e : s = t
      · simp [e]
      · simp [e]
    · rw [cmpL_swap, esc1_lt h, cmpL_gt h, if_neg (by intro e; injection e with e1; subst e1; exact UInt8.lt_irrefl _ h)]
      rfl

theorem mayB_kind {k n : Int} {s : ByteArray} (h : mayB k n s = true) : k = 0 ∨ k = 1 ∨ k = 2 ∨ k = 3 := by
  unfold mayB at h
  by_cases h0 : k = 0
  · exact .inl h0
  · by_cases h1 : k = 1
    · exact .inr (.inl h1)
    · by_cases h2 : k = 2
      · exact .inr (.inr (.inl h2))
      · by_cases h3 : k = 3
        · exact .inr (.inr (.inr h3))
        · simp [h0, h1, h2, h3] at h
theorem empty_of {s : ByteArray} (h : s.toList.isEmpty = true) : s = ⟨#[]⟩ := by
  rw [ByteArray.toList_eq] at h
  obtain ⟨⟨l⟩⟩ := s
  cases l with
  | nil => rfl
  | cons a l => simp at h
theorem mayB0 {k n : Int} {s : ByteArray} (h : mayB k n s = true) (hk : k = 0) : n = 0 ∧ s = ⟨#[]⟩ := by
  subst hk
  simp only [mayB, if_pos, Bool.and_eq_true, decide_eq_true_eq] at h
  exact ⟨h.1, empty_of h.2⟩
theorem mayB1 {k n : Int} {s : ByteArray} (h : mayB k n s = true) (hk : k = 1) : s = ⟨#[]⟩ := by
  subst hk
  have h' : s.toList.isEmpty = true := by simpa [mayB] using h
  exact empty_of h'
theorem mayB2 {k n : Int} {s : ByteArray} (h : mayB k n s = true) (hk : k = 2) : (n = 0 ∨ n = 1) ∧ s = ⟨#[]⟩ := by
  subst hk
  have h' : (n = 0 ∨ n = 1) ∧ s.toList.isEmpty = true := by simpa [mayB] using h
  exact ⟨h'.1, empty_of h'.2⟩
theorem mayB3 {k n : Int} {s : ByteArray} (h : mayB k n s = true) (hk : k = 3) : n = 0 ∧ s.size ≤ 64 := by
  subst hk
  have h' : n = 0 ∧ (s.size : Int) ≤ 64 := by simpa [mayB] using h
  exact ⟨h'.1, by omega⟩

/-- The first octet of a value's key, by its kind. -/
theorem enc1_head {v : Vl} (h : okV v) : ∃ b t, enc1 v = b :: t ∧ (v.k = 0 → b.toNat = 4) ∧ (v.k = 1 → 55 ≤ b.toNat ∧ b.toNat ≤ 72) ∧ (v.k = 2 → 80 ≤ b.toNat ∧ b.toNat ≤ 81) ∧ (v.k = 3 → b.toNat = 96) := by
  rcases mayB_kind h.1 with hk | hk | hk | hk
  · exact ⟨4, [], by simp [enc1, hk], fun _ => rfl, fun h => by omega, fun h => by omega, fun h => by omega⟩
  · have hn := need8 h.2
    refine ⟨_, _, by simp only [enc1, hk, if_true, numK]; rfl, fun h => by omega, fun _ => ?_, fun h => by omega, fun h => by omega⟩
    split
    · have := oct_toNat (63 - (need (amt v.n) : Int)); omega
    · have := oct_toNat (64 + (need (amt v.n) : Int)); omega
  · refine ⟨_, [], by simp [enc1, hk]; rfl, fun h => by omega, fun h => by omega, fun _ => ?_, fun h => by omega⟩
    have := oct_toNat (80 + v.n)
    have := (mayB2 h.1 hk).1
    omega
  · exact ⟨96, _, by simp [enc1, hk]; rfl, fun h => by omega, fun h => by omega, fun h => by omega, fun _ => rfl⟩

theorem cmp_enc {v w : Vl} (hv : okV v) (hw : okV w) (x y : List UInt8) : cmpL (enc1 v ++ x) (enc1 w ++ y) = if ordV v w = 0 then cmpL x y else ordV v w := by
  by_cases hk : v.k = w.k
  · have ho : ordV v w = if v.k = 1 ∨ v.k = 2 then ordI v.n w.n else if v.k = 3 then cmpL v.s.data.toList w.s.data.toList else 0 := by simp [ordV, hk]
    rw [ho]
    rcases mayB_kind hv.1 with h | h | h | h
    · have h' : w.k = 0 := by omega
      simp [enc1, h, h', cmpL_eq]
    · have h' : w.k = 1 := by omega
      simp only [enc1, h, h', if_true, true_or]
      rw [cmp_num _ _ hv.2 hw.2]
      by_cases e : v.n = w.n
      · simp [e, ordI_self]
      · simp [e, ordI_zero]
    · have h' : w.k = 2 := by omega
      have a := (mayB2 hv.1 h).1
      have b := (mayB2 hw.1 h').1
      simp only [enc1, h, h', if_true, or_true]
      rcases a with a | a <;> rcases b with b | b <;> simp [a, b, ordI, oct, cmpL]
    · have h' : w.k = 3 := by omega
      have e1 : enc1 v = textK v.s.data.toList := by simp [enc1, h]
      have e2 : enc1 w = textK w.s.data.toList := by simp [enc1, h']
      have e3 : (if v.k = 1 ∨ v.k = 2 then ordI v.n w.n else if v.k = 3 then cmpL v.s.data.toList w.s.data.toList else 0) = cmpL v.s.data.toList w.s.data.toList := by
        rw [if_neg (by omega), if_pos h]
      rw [e1, e2, e3]
      simp only [textK, List.cons_append, List.append_assoc, cmpL_eq, List.nil_append]
      rw [cmp_esc]
      by_cases e : v.s.data.toList = w.s.data.toList
      · rw [if_pos e, if_pos ((cmpL_zero _ _).2 e)]
      · rw [if_neg e, if_neg (fun h => e ((cmpL_zero _ _).1 h))]
  · obtain ⟨b, t, e1, a0, a1, a2, a3⟩ := enc1_head hv
    obtain ⟨c, u, e2, b0, b1, b2, b3⟩ := enc1_head hw
    have ho : ordV v w = ordI v.k w.k := by simp [ordV, hk]
    rw [ho, e1, e2, if_neg (fun h => hk (ordI_zero.1 h))]
    unfold ordI
    simp only [List.cons_append]
    have ka := mayB_kind hv.1
    have kb := mayB_kind hw.1
    by_cases hl : v.k < w.k
    · rw [if_pos hl]
      exact cmpL_lt (show b.toNat < c.toNat by omega) _ _
    · rw [if_neg hl, if_neg hk]
      exact cmpL_gt (show c.toNat < b.toNat by omega) _ _

theorem ordV_self (v : Vl) : ordV v v = 0 := by
  have h1 : cmpL v.s.data.toList v.s.data.toList = 0 := cmpL_refl _
  unfold ordV
  rw [if_neg (by simp), ordI_self, h1]
  split <;> simp
theorem ordV_zero {v w : Vl} (hv : okV v) (hw : okV w) : ordV v w = 0 ↔ v = w := by
  constructor
  · intro h
    by_cases hk : v.k = w.k
    · have ho : ordV v w = if v.k = 1 ∨ v.k = 2 then ordI v.n w.n else if v.k = 3 then cmpL v.s.data.toList w.s.data.toList else 0 := by simp [ordV, hk]
      rw [ho] at h
      have hns : v.n = w.n ∧ v.s = w.s := by
        rcases mayB_kind hv.1 with e | e | e | e
        · obtain ⟨p, q⟩ := mayB0 hv.1 e
          obtain ⟨p', q'⟩ := mayB0 hw.1 (by omega)
          exact ⟨by omega, by rw [q, q']⟩
        · have q := mayB1 hv.1 e
          have q' := mayB1 hw.1 (by omega)
          rw [if_pos (by omega)] at h
          exact ⟨ordI_zero.1 h, by rw [q, q']⟩
        · obtain ⟨p, q⟩ := mayB2 hv.1 e
          obtain ⟨p', q'⟩ := mayB2 hw.1 (by omega)
          rw [if_pos (by omega)] at h
          exact ⟨ordI_zero.1 h, by rw [q, q']⟩
        · obtain ⟨p, q⟩ := mayB3 hv.1 e
          obtain ⟨p', q'⟩ := mayB3 hw.1 (by omega)
          rw [if_neg (by omega), if_pos e] at h
          refine ⟨by omega, ?_⟩
          have h5 := (cmpL_zero _ _).1 h
          rcases v with ⟨_, _, ⟨⟨a⟩⟩⟩
          rcases w with ⟨_, _, ⟨⟨b⟩⟩⟩
          simp at h5
          simp [h5]
      rcases v with ⟨a, b, c⟩
      rcases w with ⟨a', b', c'⟩
      simp only at hk hns
      rw [hk, hns.1, hns.2]
    · have ho : ordV v w = ordI v.k w.k := by simp [ordV, hk]
      rw [ho] at h
      exact absurd (ordI_zero.1 h) hk
  · rintro rfl; exact ordV_self v

theorem cmp_encL : ∀ (l m : List Vl), okL l → okL m → cmpL (encL l) (encL m) = cmpV l m
  | [], [], _, _ => rfl
  | [], w :: m, _, hm => by
    obtain ⟨b, t, e, _⟩ := enc1_head (hm w (by simp))
    simp [encL, cmpV, e, cmpL]
  | v :: l, [], hl, _ => by
    obtain ⟨b, t, e, _⟩ := enc1_head (hl v (by simp))
    simp [encL, cmpV, e, cmpL]
  | v :: l, w :: m, hl, hm => by
    simp only [encL, cmpV]
    rw [cmp_enc (hl v (by simp)) (hm w (by simp)), cmp_encL l m (fun v h => hl v (by simp [h])) (fun v h => hm v (by simp [h]))]
theorem cmpV_zero : ∀ (l m : List Vl), okL l → okL m → (cmpV l m = 0 ↔ l = m)
  | [], [], _, _ => by simp [cmpV]
  | [], w :: m, _, hm => by simp [cmpV]
  | v :: l, [], hl, _ => by simp [cmpV]
  | v :: l, w :: m, hl, hm => by
    simp only [cmpV]
    have h0 := ordV_zero (hl v (by simp)) (hm w (by simp))
    by_cases e : ordV v w = 0
    · rw [if_pos e, cmpV_zero l m (fun v h => hl v (by simp [h])) (fun v h => hm v (by simp [h])), h0.1 e]
      simp
    · rw [if_neg e]
      constructor
      · intro h; exact absurd h e
      · intro h; injection h with h1; exact absurd (h0.2 h1) e
theorem encL_inj {l m : List Vl} (hl : okL l) (hm : okL m) : encL l = encL m ↔ l = m := by
  rw [← cmpL_zero, cmp_encL l m hl hm, cmpV_zero l m hl hm]

/-- No value's key begins another's. -/
theorem enc1_prefix {v w : Vl} (hv : okV v) (hw : okV w) (z : List UInt8) (h : enc1 w = enc1 v ++ z) : v = w := by
  have h1 := cmp_enc hv hw z []
  rw [List.append_nil, h, cmpL_refl] at h1
  rw [← ordV_zero hv hw]
  split at h1
  · assumption
  · exact h1.symm

theorem enc1_length_num (n : Int) (h : inR n = true) : (numK n).length = need (amt n) + 1 := by simp [numK, octs_length]

/-- Between a text and itself with a least octet more there is none. -/
theorem cmpL_after : ∀ (s t : List UInt8), cmpL s t < 0 → cmpL t (s ++ [0]) < 0 → False
  | [], [], h, _ => by simp [cmpL] at h
  | [], c :: t, _, h => by
    simp only [List.nil_append, cmpL] at h
    have h0 : ¬ c < 0 := by
      show ¬ c.toNat < (0 : UInt8).toNat
      simp
    rw [if_neg h0] at h
    by_cases h1 : (0 : UInt8) < c
    · rw [if_pos h1] at h; omega
    · rw [if_neg h1] at h
      cases t <;> simp [cmpL] at h
  | c :: s, [], h, _ => by simp [cmpL] at h
  | c :: s, d :: t, h, h' => by
    rcases u8_lt_or c d with e | e | e
    · simp only [List.cons_append] at h'
      rw [cmpL_gt e] at h'; omega
    · subst e
      simp only [List.cons_append, cmpL_eq] at h h'
      exact cmpL_after s t h h'
    · rw [cmpL_gt e] at h; omega
theorem cmpL_snoc (s : List UInt8) (c : UInt8) : cmpL s (s ++ [c]) = -1 := by
  induction s with
  | nil => rfl
  | cons a s ih => simp only [List.cons_append, cmpL_eq]; exact ih

end Go.Proofs.Ytapichngakcpeaa
