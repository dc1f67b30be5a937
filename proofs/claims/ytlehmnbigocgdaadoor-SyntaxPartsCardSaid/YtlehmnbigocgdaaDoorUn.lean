/- The Args of an expression that may be: each may be, and its print stands in the whole's: plain mathematics. Conditions: none. -/
import Derived.Test.YtlehmnbigocgdaaDoorUi
namespace Go.Proofs.YtlehmnbigocgdaaDoor
open Go.RowKit
set_option linter.unusedSimpArgs false
set_option linter.unusedVariables false

theorem wkAll_mono {α : Type} {f f' : Nat → α → Nat × Int} (hf : ∀ c c' y, c' ≤ c → (f c y).2 = 0 → (f' c' y).2 = 0 ∧ (f' c' y).1 + c = (f c y).1 + c') :
    ∀ (l : List α) (c c' : Nat), c' ≤ c → (wkAll f c l).2 = 0 → (wkAll f' c' l).2 = 0 ∧ (wkAll f' c' l).1 + c = (wkAll f c l).1 + c'
  | [], c, c', _, _ => ⟨rfl, by simp [wkAll]; omega⟩
  | y :: l, c, c', hc, h => by
    rw [wkAll] at h ⊢
    by_cases h0 : (f c y).2 = 0
    · obtain ⟨a1, a2⟩ := hf c c' y hc h0
      rw [if_pos h0] at h
      rw [if_pos a1]
      obtain ⟨b1, b2⟩ := wkAll_mono hf l (f c y).1 (f' c' y).1 (by omega) h
      refine ⟨b1, ?_⟩
      rw [wkAll, if_pos h0]
      omega
    · rw [if_neg h0] at h
      exact absurd h h0
theorem wkX_mono' {n : Nat} (ih : ∀ lvl lvl' c c' (y : Ar n), lvl' ≤ lvl → c' ≤ c → (wk n lvl c y).2 = 0 → (wk n lvl' c' y).2 = 0 ∧ (wk n lvl' c' y).1 + c = (wk n lvl c y).1 + c')
    (lvl lvl' c c' : Nat) (x : ExN (Ar n)) (hl : lvl' ≤ lvl) (hc : c' ≤ c) (h : (wkX lvl c x).2 = 0) : (wkX lvl' c' x).2 = 0 ∧ (wkX lvl' c' x).1 + c = (wkX lvl c x).1 + c' := by
  by_cases h1 : 12 < lvl
  · rw [wkX_deep h1] at h; cases h
  by_cases h2 : 64 ≤ c
  · rw [wkX_many h1 h2] at h; cases h
  cases h3 : partB x
  · rw [wkX_part h1 h2 h3] at h; cases h
  · rw [wkX_on h1 h2 h3] at h ⊢
    rw [wkX_on (by omega) (by omega) h3]
    obtain ⟨a1, a2⟩ := wkAll_mono (f := wk n (lvl + 1)) (f' := wk n (lvl' + 1)) (fun c c' y hc h => ih (lvl + 1) (lvl' + 1) c c' y (by omega) hc h) x.l (c + 1) (c' + 1) (by omega) h
    exact ⟨a1, by omega⟩
theorem wk_mono : ∀ (n lvl lvl' c c' : Nat) (y : Ar n), lvl' ≤ lvl → c' ≤ c → (wk n lvl c y).2 = 0 → (wk n lvl' c' y).2 = 0 ∧ (wk n lvl' c' y).1 + c = (wk n lvl c y).1 + c'
  | 0, _, _, _, _, y, _, _, _ => Empty.elim y
  | n + 1, lvl, lvl', c, c', x, hl, hc, h => wkX_mono' (wk_mono n) lvl lvl' c c' x hl hc h
theorem wk_e : {n : Nat} → (lvl c : Nat) → (y : Ar n) → wk n lvl c y = wkX lvl c y.e
  | 0, _, _, y => Empty.elim y
  | _ + 1, _, _, _ => rfl
theorem wkAll_each {α : Type} {f : Nat → α → Nat × Int} : ∀ (l : List α) (c : Nat), (wkAll f c l).2 = 0 → ∀ y ∈ l, ∃ c', (f c' y).2 = 0
  | [], _, _, y, hy => by cases hy
  | z :: l, c, h, y, hy => by
    rw [wkAll] at h
    by_cases h0 : (f c z).2 = 0
    · rw [if_pos h0] at h
      rcases List.mem_cons.1 hy with rfl | hy
      · exact ⟨c, h0⟩
      · exact wkAll_each l _ h y hy
    · rw [if_neg h0] at h
      exact absurd h h0
/-- Each Arg of what may be, may be. -/
theorem chk_args {n : Nat} {x : ExN (Ar n)} (h : chkX x = 0) : ∀ y ∈ x.l, chkX y.e = 0 := by
  unfold chkX at h
  cases h3 : partB x
  · rw [wkX_part (by decide) (by decide) h3] at h; cases h
  · rw [wkX_on (by decide) (by decide) h3] at h
    intro y hy
    obtain ⟨c', hc'⟩ := wkAll_each x.l _ h y hy
    have h4 := (wk_mono n _ 1 c' 0 y (by omega) (Nat.zero_le _) hc').1
    rw [wk_e] at h4
    exact h4
/-- Its print stands in the whole's, behind something. -/
theorem part_in {n : Nat} {x : ExN (Ar n)} (hx : okX x = true) : ∀ y ∈ x.l, ∃ u v, prX x = u ++ (prA n y ++ v) ∧ u ≠ [] := by
  unfold okX at hx
  rw [Bool.and_eq_true] at hx
  obtain ⟨hpart, _⟩ := hx
  obtain ⟨⟨h0, h1⟩, hargs, hlen⟩ := part_op hpart
  intro y hy
  have h2 : 2 ≤ x.op := by
    rcases (show x.op = 0 ∨ x.op = 1 ∨ 2 ≤ x.op by omega) with e | e | e
    · rw [e] at hargs
      have : x.l.length = 0 := by unfold argsI at hargs; simp at hargs; omega
      rw [List.eq_nil_of_length_eq_zero this] at hy
      cases hy
    · rw [e] at hargs
      have : x.l.length = 0 := by unfold argsI at hargs; simp at hargs; omega
      rw [List.eq_nil_of_length_eq_zero this] at hy
      cases hy
    · exact e
  have hne : (fH x.op.toNat).data.toList ≠ [] := by
    have : ∀ k, k < 23 → 2 ≤ k → (fH k).data.toList ≠ [] := by decide
    exact this x.op.toNat (by omega) (by omega)
  unfold prX prL
  rw [if_neg (by omega), if_neg (by omega)]
  match hl : x.l, hy with
  | [z], hy =>
    simp at hy; subst hy
    exact ⟨(fH x.op.toNat).data.toList, (fE x.op.toNat).data.toList, by simp [joinL], hne⟩
  | [z, z'], hy =>
    rcases List.mem_cons.1 hy with rfl | hy
    · exact ⟨(fH x.op.toNat).data.toList, (fB x.op.toNat).data.toList ++ (prA n z' ++ (fE x.op.toNat).data.toList), by simp [joinL], hne⟩
    · simp at hy; subst hy
      exact ⟨(fH x.op.toNat).data.toList ++ (prA n z ++ (fB x.op.toNat).data.toList), (fE x.op.toNat).data.toList, by simp [joinL], by simp [hne]⟩
  | z :: z' :: z2 :: l, _ => rw [hl] at hlen; simp at hlen
/-- A text that stands in another, cut out of it. -/
theorem cut_in {s t : ByteArray} {u v : List UInt8} (h : s.data.toList = u ++ (t.data.toList ++ v)) : u.length + t.size ≤ s.size ∧ s.extract u.length (u.length + t.size) = t := by
  have hl := congrArg List.length h
  rw [List.length_append, List.length_append, bsz, bsz] at hl
  refine ⟨by omega, ba_ext ?_⟩
  rw [ByteArray.data_extract, Array.toList_extract, h]
  simp only [List.extract]
  rw [List.drop_left, show u.length + t.size - u.length = t.data.toList.length by rw [bsz]; omega, List.take_left]
end Go.Proofs.YtlehmnbigocgdaaDoor
