/- How values and expressions are printed: plain mathematics. Conditions: none. -/
import Derived.Test.YtnbgnofbeklmkaaGreatDoorTl0
import Derived.Test.YtnbgnofbeklmkaaGreatDoorUa0
namespace Go.Proofs.YtnbgnofbeklmkaaGreatDoor
open Go.RowKit
set_option linter.unusedSimpArgs false
set_option linter.unusedVariables false

/-- A value as a text. -/
def litL (v : Vl) : List UInt8 := if v.k = 0 then [78, 85, 76, 76] else if v.k = 1 then dec v.n.toNat else if v.k = 2 then (if v.n = 1 then [84, 82, 85, 69] else [70, 65, 76, 83, 69]) else 39 :: (esc v.s.data.toList ++ [39])
/-- A column as a text. -/
def colL (t m : ByteArray) : List UInt8 := if emp t = true then m.data.toList else t.data.toList ++ 46 :: m.data.toList
/-- An expression as a text, its Args' texts told by pr. -/
def prL {α : Type} (pr : α → List UInt8) (x : ExN α) : List UInt8 :=
  if x.op = 0 then litL x.v else if x.op = 1 then colL x.t x.m else (fH x.op.toNat).data.toList ++ (joinL (fB x.op.toNat).data.toList (x.l.map pr) ++ (fE x.op.toNat).data.toList)
def prA : (n : Nat) → Ar n → List UInt8
  | 0, y => Empty.elim y
  | n + 1, (x : ExN (Ar n)) => prL (prA n) x
def prX {n : Nat} (x : ExN (Ar n)) : List UInt8 := prL (prA n) x
theorem prA_e : {n : Nat} → (y : Ar n) → prA n y = prX y.e
  | 0, y => Empty.elim y
  | _ + 1, _ => rfl
/-- Whether all parts may be. -/
def okP : (n : Nat) → Ar n → Bool
  | 0, y => Empty.elim y
  | n + 1, (x : ExN (Ar n)) => partB x && x.l.all (okP n)
def okX {n : Nat} (x : ExN (Ar n)) : Bool := partB x && x.l.all (okP n)
theorem okP_e : {n : Nat} → (y : Ar n) → okP n y = okX y.e
  | 0, y => Empty.elim y
  | _ + 1, _ => rfl

theorem fTab_len : ∀ k, k < 23 → (fH k).data.toList.length ≤ 10 ∧ (fB k).data.toList.length ≤ 10 ∧ (fE k).data.toList.length ≤ 20 := by decide
theorem part_op {α : Type} {x : ExN α} (h : partB x = true) : (0 ≤ x.op ∧ x.op < 23) ∧ argsI x.op = x.l.length ∧ x.l.length ≤ 2 := by
  unfold partB at h
  simp only [Bool.and_eq_true, decide_eq_true_eq] at h
  have h1 := h.1
  refine ⟨?_, h1, ?_⟩
  · unfold argsI at h1
    split at h1
    · omega
    · omega
  · unfold argsI at h1
    split at h1
    · omega
    split at h1
    · omega
    split at h1 <;> omega
theorem nameB_len {s : ByteArray} (h : nameB s = true) : s.size ≤ 16 := by
  rcases Nat.lt_or_ge 16 s.size with h1 | h1
  · rw [nameB_long h1] at h; cases h
  · exact h1
theorem emp_len {s : ByteArray} (h : emp s = true) : s.size = 0 := by
  unfold emp at h
  rw [ByteArray.toList_eq, List.isEmpty_iff] at h
  rw [← bsz, h]; rfl
theorem litL_len {v : Vl} (h : litB v.k v.n v.s = true) : (litL v).length ≤ 130 := by
  unfold litL
  unfold litB mayB at h
  split
  · decide
  split
  · exact Nat.le_trans (dec_len _) (by decide)
  split
  · split <;> decide
  · rename_i h0 h1 h2
    rw [if_neg h0, if_neg h1, if_neg h2] at h
    have h3 : (v.s.size : Int) ≤ 64 := by
      split at h
      · simp at h; omega
      · simp at h
    have := esc_len v.s.data.toList
    rw [bsz] at this
    simp; omega
theorem colL_len {t m : ByteArray} (h : (emp t || nameB t) = true) (h1 : nameB m = true) : (colL t m).length ≤ 33 := by
  have h2 := nameB_len h1
  unfold colL
  split
  · rw [bsz]; omega
  · rename_i h3
    have h4 : nameB t = true := by
      cases h5 : emp t
      · rw [h5] at h; simpa using h
      · exact absurd h5 h3
    have := nameB_len h4
    simp only [List.length_append, List.length_cons, bsz]
    omega
theorem prL_len {α : Type} {pr : α → List UInt8} {x : ExN α} (h : partB x = true) : (prL pr x).length ≤ 150 + (x.l.map fun y => (pr y).length).sum := by
  obtain ⟨⟨h0, h1⟩, h2, h3⟩ := part_op h
  unfold partB at h
  rw [Bool.and_eq_true] at h
  have h := h.2
  unfold prL
  split
  · rename_i e; rw [if_pos e] at h
    simp only [Bool.and_eq_true] at h
    have := litL_len h.2
    omega
  split
  · rename_i e0 e; rw [if_neg e0, if_pos e] at h
    simp only [Bool.and_eq_true] at h
    have := colL_len h.1.2 h.2
    omega
  · obtain ⟨f1, f2, f3⟩ := fTab_len x.op.toNat (by omega)
    have := joinL_len (fB x.op.toNat).data.toList (x.l.map pr)
    rw [List.map_map, List.length_map] at this
    have e : (List.length ∘ pr) = fun y => (pr y).length := rfl
    rw [e] at this
    have h5 : x.l.length * (fB x.op.toNat).data.toList.length ≤ 2 * 10 := Nat.mul_le_mul h3 f2
    simp only [List.length_append]
    omega

theorem wkAll_ok {α : Type} {f : Nat → α → Nat × Int} {P : α → Bool} {g : α → Nat} (hf : ∀ c y, (f c y).2 = 0 → P y = true ∧ g y + 150 * c ≤ 150 * (f c y).1) : ∀ (l : List α) (c : Nat), (wkAll f c l).2 = 0 → l.all P = true ∧ (l.map g).sum + 150 * c ≤ 150 * (wkAll f c l).1
  | [], c, _ => ⟨rfl, by simp [wkAll]⟩
  | y :: l, c, h => by
    rw [wkAll] at h ⊢
    by_cases h0 : (f c y).2 = 0
    · rw [if_pos h0] at h ⊢
      obtain ⟨a1, a2⟩ := hf c y h0
      obtain ⟨b1, b2⟩ := wkAll_ok hf l _ h
      refine ⟨by rw [List.all_cons, a1, b1]; rfl, ?_⟩
      simp only [List.map_cons, List.sum_cons]
      omega
    · rw [if_neg h0] at h
      exact absurd h h0
theorem wkX_ok' {n : Nat} (ih : ∀ lvl c (y : Ar n), (wk n lvl c y).2 = 0 → okP n y = true ∧ (prA n y).length + 150 * c ≤ 150 * (wk n lvl c y).1) (lvl c : Nat) (x : ExN (Ar n)) (h : (wkX lvl c x).2 = 0) :
    okX x = true ∧ (prX x).length + 150 * c ≤ 150 * (wkX lvl c x).1 := by
  by_cases h1 : 12 < lvl
  · rw [wkX_deep h1] at h; cases h
  by_cases h2 : 64 ≤ c
  · rw [wkX_many h1 h2] at h; cases h
  cases h3 : partB x
  · rw [wkX_part h1 h2 h3] at h; cases h
  · rw [wkX_on h1 h2 h3] at h ⊢
    obtain ⟨a1, a2⟩ := wkAll_ok (f := wk n (lvl + 1)) (g := fun y => (prA n y).length) (fun c y h => ih (lvl + 1) c y h) _ _ h
    refine ⟨by unfold okX; rw [h3, a1]; rfl, ?_⟩
    have := prL_len (pr := prA n) h3
    unfold prX
    omega
theorem wk_ok : ∀ (n lvl c : Nat) (y : Ar n), (wk n lvl c y).2 = 0 → okP n y = true ∧ (prA n y).length + 150 * c ≤ 150 * (wk n lvl c y).1
  | 0, _, _, y, _ => Empty.elim y
  | n + 1, lvl, c, x, h => wkX_ok' (wk_ok n) lvl c x h
/-- An expression that may be: all its parts may be, and its text is short. -/
theorem chk_ok {n : Nat} {x : ExN (Ar n)} (h : chkX x = 0) : okX x = true ∧ (prX x).length ≤ 9600 := by
  obtain ⟨h1, h2⟩ := wkX_ok' (wk_ok n) 1 0 x h
  have := wkX_le' (wk_le n) 1 0 x (by omega)
  exact ⟨h1, by omega⟩
end Go.Proofs.YtnbgnofbeklmkaaGreatDoor
