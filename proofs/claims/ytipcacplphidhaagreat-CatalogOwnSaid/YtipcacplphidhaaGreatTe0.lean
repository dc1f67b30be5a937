/- What a name is: plain mathematics. Conditions: none. -/
import Derived.Test.YtipcacplphidhaaGreatTa
namespace Go.Proofs.YtipcacplphidhaaGreat.Sy
open Go.RowKit
set_option linter.unusedSimpArgs false
set_option linter.unusedVariables false

/-- The keywords, in small letters. -/
def kwl : List (List UInt8) := [[99, 114, 101, 97, 116, 101], [116, 97, 98, 108, 101], [105, 110, 100, 101, 120], [111, 110], [100, 114, 111, 112], [105, 110, 115, 101, 114, 116], [105, 110, 116, 111], [118, 97, 108, 117, 101, 115], [117, 112, 100, 97, 116, 101], [115, 101, 116], [100, 101, 108, 101, 116, 101], [102, 114, 111, 109], [119, 104, 101, 114, 101], [115, 101, 108, 101, 99, 116], [106, 111, 105, 110], [103, 114, 111, 117, 112], [98, 121], [111, 114, 100, 101, 114], [100, 101, 115, 99], [108, 105, 109, 105, 116], [98, 101, 103, 105, 110], [99, 111, 109, 109, 105, 116], [114, 111, 108, 108, 98, 97, 99, 107], [112, 114, 105, 109, 97, 114, 121], [107, 101, 121], [110, 111, 116], [110, 117, 108, 108], [105, 115], [97, 110, 100], [111, 114], [116, 114, 117, 101], [102, 97, 108, 115, 101], [105, 110, 116], [98, 111, 111, 108], [116, 101, 120, 116], [99, 111, 117, 110, 116], [115, 117, 109], [109, 105, 110], [109, 97, 120]]
/-- Whether small letters are a keyword. -/
def kwB (x : ByteArray) : Bool := kwl.contains x.toList
/-- One letter, in small. -/
def low (c : UInt8) : UInt8 := if 65 ≤ c.toNat ∧ c.toNat ≤ 90 then c + 32 else c
def lowS (s : ByteArray) : ByteArray := ⟨(s.data.toList.map low).toArray⟩
theorem lowS_list (s : ByteArray) : (lowS s).data.toList = s.data.toList.map low := by simp [lowS]
theorem lowS_size (s : ByteArray) : (lowS s).size = s.size := by
  have := congrArg List.length (lowS_list s); simpa using this
theorem low_up {c : UInt8} (h : 65 ≤ c.toNat ∧ c.toNat ≤ 90) : (low c).toNat = c.toNat + 32 := by
  unfold low; rw [if_pos h, UInt8.toNat_add]; simp; omega
theorem low_id {c : UInt8} (h : ¬ (65 ≤ c.toNat ∧ c.toNat ≤ 90)) : low c = c := by unfold low; rw [if_neg h]

def digB (c : UInt8) : Bool := decide (48 ≤ c.toNat ∧ c.toNat ≤ 57)
def nmB (c : UInt8) : Bool := decide ((97 ≤ c.toNat ∧ c.toNat ≤ 122) ∨ (48 ≤ c.toNat ∧ c.toNat ≤ 57) ∨ c.toNat = 95)
/-- Whether a text may be a name. -/
def nameB (s : ByteArray) : Bool :=
  match s.data.toList with
  | [] => false
  | c :: l => decide (l.length + 1 ≤ 16) && !digB c && (c :: l).all nmB && !kwB (lowS s)
theorem nameB_long {s : ByteArray} (h : 16 < s.size) : nameB s = false := by
  unfold nameB
  have e : s.data.toList.length = s.size := by simp
  cases h' : s.data.toList with
  | nil => rfl
  | cons c l => rw [h'] at e; simp at e; have : ¬ l.length + 1 ≤ 16 := by omega
                simp [this]
theorem nameB_dig {s : ByteArray} (h0 : 0 < s.size) (h : digB s[0] = true) : nameB s = false := by
  unfold nameB
  have e : s.data.toList[0]? = some s[0] := by
    have : s.data.toList.length = s.size := by simp
    rw [List.getElem?_eq_getElem (by omega)]; rfl
  cases h' : s.data.toList with
  | nil => rfl
  | cons c l => rw [h'] at e; simp at e; subst e; simp [h]
theorem nameB_bad {s : ByteArray} {j : Nat} (hj : j < s.size) (h : nmB s[j] = false) : nameB s = false := by
  unfold nameB
  have e : s[j] ∈ s.data.toList := by
    have : s.data.toList.length = s.size := by simp
    exact List.mem_of_getElem? (i := j) (by rw [List.getElem?_eq_getElem (by omega)]; rfl)
  cases h' : s.data.toList with
  | nil => rfl
  | cons c l =>
    rw [h'] at e
    have : (c :: l).all nmB = false := by
      rw [Bool.eq_false_iff]
      intro h2
      have := List.all_eq_true.1 h2 _ e
      rw [h] at this; cases this
    simp only [this]; simp
theorem nameB_kw {s : ByteArray} (h : kwB (lowS s) = true) : nameB s = false := by
  unfold nameB
  cases s.data.toList <;> simp [h]
theorem nameB_yes {s : ByteArray} (h0 : 0 < s.size) (h1 : s.size ≤ 16) (h2 : digB s[0] = false) (h3 : ∀ j (hj : j < s.size), nmB s[j] = true) : nameB s = !kwB (lowS s) := by
  unfold nameB
  have hl : s.data.toList.length = s.size := by simp
  have e : s.data.toList[0]? = some s[0] := by
    rw [List.getElem?_eq_getElem (by omega)]; rfl
  have hall : s.data.toList.all nmB = true := by
    rw [List.all_eq_true]
    intro c hc
    obtain ⟨j, hj, rfl⟩ := List.mem_iff_getElem.1 hc
    exact h3 j (by omega)
  cases h' : s.data.toList with
  | nil => rw [h'] at hl; simp at hl; omega
  | cons c l =>
    rw [h'] at e hall hl
    simp at e hl
    subst e
    have : l.length + 1 ≤ 16 := by omega
    simp only [hall, h2, this]; simp
end Go.Proofs.YtipcacplphidhaaGreat.Sy
