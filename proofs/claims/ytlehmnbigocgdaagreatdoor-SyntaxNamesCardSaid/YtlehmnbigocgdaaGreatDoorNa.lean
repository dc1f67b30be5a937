/- A name is one word of the lexer, in small letters: plain mathematics. Conditions: none. -/
import Derived.Test.YtlehmnbigocgdaaGreatDoorLvl
import Derived.Test.YtlehmnbigocgdaaGreatDoorUi
namespace Go.Proofs.YtlehmnbigocgdaaGreatDoor
open Go.RowKit
set_option linter.unusedSimpArgs false
set_option linter.unusedVariables false

theorem lexF_pre : ∀ (f : Nat) (acc : List Lx.Tok) (a : Nat) (r : List UInt8) (l : List Lx.Tok), Lx.lexF f acc a r = .ok l → ∃ q, l = acc ++ q
  | 0, acc, a, r, l, h => by
    rw [Lx.lexF] at h
    injection h with h
    exact ⟨[], by simp [h]⟩
  | f + 1, acc, a, r, l, h => by
    rw [Lx.lexF] at h
    by_cases hr : r = []
    · rw [if_pos hr] at h
      injection h with h
      exact ⟨[], by simp [h]⟩
    · rw [if_neg hr] at h
      cases ht : Lx.tokL r with
      | none => rw [ht] at h; cases h
      | some x =>
        obtain ⟨k, t, n, r'⟩ := x
        rw [ht] at h
        dsimp only at h
        split at h
        · cases h
        · obtain ⟨q, hq⟩ := lexF_pre f _ _ _ l h
          exact ⟨_, by rw [hq, List.append_assoc]⟩
theorem lexF_err : ∀ (f : Nat) (acc : List Lx.Tok) (a : Nat) (r : List UInt8) (b x : Nat), Lx.lexF f acc a r = .err b x → x ≠ 0
  | 0, acc, a, r, b, x, h => by rw [Lx.lexF] at h; cases h
  | f + 1, acc, a, r, b, x, h => by
    rw [Lx.lexF] at h
    by_cases hr : r = []
    · rw [if_pos hr] at h; cases h
    · rw [if_neg hr] at h
      cases ht : Lx.tokL r with
      | none => rw [ht] at h; dsimp only at h; injection h with _ h; omega
      | some y =>
        obtain ⟨k, t, n, r'⟩ := y
        rw [ht] at h
        dsimp only at h
        split at h
        · injection h with _ h; omega
        · exact lexF_err f _ _ _ b x h
theorem lexL_err {s : List UInt8} {b x : Nat} (h : Lx.lexL s = .err b x) : x ≠ 0 := by
  unfold Lx.lexL at h
  split at h
  · injection h with _ h; omega
  · exact lexF_err _ _ _ _ b x h

theorem low_same {c : UInt8} (h : nmB c = true) : Lx.isWrd c = true ∧ Lx.low c = c := by
  unfold nmB at h
  have h' := of_decide_eq_true h
  refine ⟨?_, ?_⟩
  · simp [Lx.isWrd, Lx.isLet, Lx.isDig]; omega
  · unfold Lx.low; rw [if_neg (by omega)]
theorem low_nm {c : UInt8} (h : Lx.isWrd c = true) : nmB (Lx.low c) = true := by
  unfold nmB
  simp [Lx.isWrd, Lx.isLet, Lx.isDig] at h
  apply decide_eq_true
  unfold Lx.low
  split
  · rename_i h1
    have : (c + 32).toNat = c.toNat + 32 := by
      rw [UInt8.toNat_add]
      have : (32 : UInt8).toNat = 32 := rfl
      omega
    omega
  · omega
theorem low_dig {c : UInt8} (h : Lx.isLet c = true) : digB (Lx.low c) = false := by
  unfold digB
  simp [Lx.isLet] at h
  apply decide_eq_false
  unfold Lx.low
  split
  · rename_i h1
    have : (c + 32).toNat = c.toNat + 32 := by
      rw [UInt8.toNat_add]
      have : (32 : UInt8).toNat = 32 := rfl
      omega
    omega
  · omega
theorem tw_all {α : Type} {p : α → Bool} : ∀ {l : List α}, (∀ x ∈ l, p x = true) → l.takeWhile p = l ∧ l.dropWhile p = []
  | [], _ => ⟨rfl, rfl⟩
  | x :: l, h => by
    obtain ⟨h1, h2⟩ := tw_all (l := l) fun y hy => h y (List.mem_cons_of_mem _ hy)
    rw [List.takeWhile_cons, List.dropWhile_cons, if_pos (h x List.mem_cons_self), if_pos (h x List.mem_cons_self), h1, h2]
    exact ⟨rfl, rfl⟩
theorem tw_mem {α : Type} {p : α → Bool} : ∀ {l : List α} {x : α}, x ∈ l.takeWhile p → p x = true
  | [], x, h => by cases h
  | y :: l, x, h => by
    rw [List.takeWhile_cons] at h
    split at h
    · rename_i hy
      rcases List.mem_cons.1 h with rfl | h
      · exact hy
      · exact tw_mem h
    · cases h
/-- Whether the lexer tells a text as one word, in small letters, that is no keyword. -/
def OneWord (s : ByteArray) : Prop := ∃ t : Lx.Tok, Lx.lexL s.data.toList = .ok [t] ∧ t.k = 1 ∧ t.t = s.data.toList
theorem word_of_name {s : ByteArray} (h : nameB s = true) : OneWord s ∧ kwB (lowS s) = false := by
  unfold nameB at h
  match hs : s.data.toList, h with
  | c :: l, h =>
    dsimp only at h
    simp only [Bool.and_eq_true, decide_eq_true_eq, Bool.not_eq_true'] at h
    obtain ⟨⟨⟨h1, h2⟩, h3⟩, h4⟩ := h
    refine ⟨?_, h4⟩
    have hall : ∀ d ∈ c :: l, nmB d = true := fun d hd => List.all_eq_true.1 h3 d hd
    have hc := of_decide_eq_true (show decide _ = true from hall c List.mem_cons_self)
    have hnd : ¬ (48 ≤ c.toNat ∧ c.toNat ≤ 57) := of_decide_eq_false h2
    have hlet : Lx.isLet c = true := by simp [Lx.isLet]; omega
    obtain ⟨t1, t2⟩ := tw_all (p := Lx.isWrd) (l := c :: l) fun d hd => (low_same (hall d hd)).1
    have hmap : (c :: l).map Lx.low = c :: l := by
      conv => rhs; rw [← List.map_id (c :: l)]
      exact List.map_congr_left fun d hd => (low_same (hall d hd)).2
    have hb : Lx.isBlk c = false := by simp [Lx.isBlk]; omega
    have hp : Lx.isPre [45, 45] (c :: l) = false := by
      simp only [Lx.isPre]
      cases l with
      | nil => simp
      | cons d q =>
        have : c ≠ 45 := fun e => by rw [e] at hc; revert hc; decide
        simp [this]
    have hsk : Lx.skipL (c :: l) = c :: l := by
      have e : (c :: l).dropWhile Lx.isBlk = c :: l := by rw [List.dropWhile_cons, if_neg (by rw [hb]; simp)]
      unfold Lx.skipL
      rw [List.length_cons, Lx.skipF, e, if_neg (by rw [hp]; simp)]
    have htok : Lx.tokL (c :: l) = some (1, c :: l, 0, []) := by
      unfold Lx.tokL
      dsimp only
      rw [if_pos hlet, t1, t2, if_pos (by simpa using h1), hmap]
    refine ⟨⟨1, c :: l, 0, 0⟩, ?_, rfl, by rw [hs]⟩
    rw [hs]
    unfold Lx.lexL
    rw [if_neg (by simp at h1 ⊢; omega), hsk, List.length_cons, Lx.lexF, if_neg (by simp), htok]
    dsimp only
    rw [if_neg (by simp)]
    have : Lx.skipL [] = [] := rfl
    rw [this, Lx.lex_nil]
    simp
theorem name_of_word {s : ByteArray} (h : OneWord s) (hk : kwB (lowS s) = false) : nameB s = true := by
  obtain ⟨t, hl, hk1, ht⟩ := h
  unfold Lx.lexL at hl
  split at hl
  · cases hl
  · generalize Lx.skipL s.data.toList = r at hl
    cases hf : s.data.toList.length with
    | zero => rw [hf, Lx.lexF] at hl; injection hl with hl; cases hl
    | succ f =>
      rw [hf, Lx.lexF] at hl
      by_cases hr : r = []
      · rw [if_pos hr] at hl; injection hl with hl; cases hl
      · rw [if_neg hr] at hl
        cases htk : Lx.tokL r with
        | none => rw [htk] at hl; cases hl
        | some x =>
          obtain ⟨k, tx, n, r'⟩ := x
          rw [htk] at hl
          dsimp only at hl
          split at hl
          · cases hl
          · obtain ⟨q, hq⟩ := lexF_pre _ _ _ _ _ hl
            rw [List.nil_append, List.singleton_append] at hq
            injection hq with hq _
            subst hq
            dsimp only at hk1 ht
            subst hk1
            match r, htk with
            | c :: p, htk =>
              unfold Lx.tokL at htk
              dsimp only at htk
              by_cases hlet : Lx.isLet c = true
              · rw [if_pos hlet] at htk
                split at htk
                · rename_i h16
                  injection htk with htk
                  injection htk with _ htk
                  injection htk with htk _
                  rw [ht] at htk
                  have hw : Lx.isWrd c = true := by unfold Lx.isWrd; rw [hlet]; rfl
                  rw [List.takeWhile_cons, if_pos hw, List.map_cons] at htk
                  rw [List.takeWhile_cons, if_pos hw, List.length_cons] at h16
                  unfold nameB
                  rw [← htk]
                  dsimp only
                  simp only [Bool.and_eq_true, decide_eq_true_eq, Bool.not_eq_true']
                  refine ⟨⟨⟨by rw [List.length_map]; exact h16, low_dig hlet⟩, ?_⟩, hk⟩
                  rw [List.all_eq_true]
                  intro d hd
                  rcases List.mem_cons.1 hd with rfl | hd
                  · exact low_nm hw
                  · obtain ⟨e, he, rfl⟩ := List.mem_map.1 hd
                    exact low_nm (tw_mem he)
                · cases htk
              · rw [if_neg hlet] at htk
                exfalso
                split at htk
                · split at htk
                  · injection htk with htk; injection htk with h1; cases h1
                  · cases htk
                · split at htk
                  · split at htk
                    · split at htk
                      · injection htk with htk; injection htk with h1; cases h1
                      · cases htk
                    · cases htk
                  · split at htk
                    · injection htk with htk; injection htk with h1; cases h1
                    · cases htk

/-- A column of that name. -/
def xN (s : ByteArray) : ExN (Ar 0) := ⟨1, vl0, ⟨#[]⟩, s, []⟩
theorem emp0 : emp ⟨#[]⟩ = true := by unfold emp; rw [ByteArray.toList_eq]; rfl
theorem partN (s : ByteArray) : partB (xN s) = nameB s := by
  have e : eqV vl0 vl0 = true := by simp [eqV, vl0]
  simp [partB, argsI, xN, e, emp0]
theorem chkN_yes {s : ByteArray} (h : nameB s = true) : chkX (xN s) = 0 ∧ txX (xN s) = s := by
  have h1 : chkX (xN s) = 0 := by
    unfold chkX
    rw [wkX_on (by decide) (by decide) (by rw [partN, h])]
    rfl
  refine ⟨h1, ?_⟩
  rw [txX_ok h1]
  apply ba_ext
  simp [prX, prL, xN, colL, emp0]
theorem chkN_no {s : ByteArray} (h : nameB s = false) : chkX (xN s) = 9 := by
  unfold chkX
  rw [wkX_part (by decide) (by decide) (by rw [partN, h])]
end Go.Proofs.YtlehmnbigocgdaaGreatDoor
