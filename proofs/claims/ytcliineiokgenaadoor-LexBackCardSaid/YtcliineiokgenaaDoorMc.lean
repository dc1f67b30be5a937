/- What blanks and a remark ahead do to a text's tokens. Mathematics alone; no conditions. -/
import Derived.Test.YtcliineiokgenaaDoorMb
namespace Go.Proofs.YtcliineiokgenaaDoor
set_option linter.unusedSimpArgs false
set_option linter.unusedVariables false

def sh (d : Nat) (t : Tok) : Tok := ⟨t.k, t.t, t.n, t.at_ + d⟩
def shR (d : Nat) : LexR → LexR
  | .ok l => .ok (l.map (sh d))
  | .err a e => .err (a + d) e
theorem lexF_sh (d : Nat) : ∀ (f : Nat) (acc : List Tok) (a : Nat) (r : List UInt8), lexF f (acc.map (sh d)) (a + d) r = shR d (lexF f acc a r)
  | 0, acc, a, r => rfl
  | f + 1, acc, a, r => by
    rw [lexF, lexF]
    by_cases hn : r = []
    · rw [if_pos hn, if_pos hn]; rfl
    · rw [if_neg hn, if_neg hn]
      cases ht : tokL r with
      | none => rfl
      | some x =>
        obtain ⟨k, t, n, r'⟩ := x
        simp only [List.length_map]
        by_cases hf : acc.length = 400
        · rw [if_pos hf, if_pos hf]; rfl
        · rw [if_neg hf, if_neg hf]
          have ih := lexF_sh d f (acc ++ [⟨k, t, n, a⟩]) (a + (r.length - (skipL r').length)) (skipL r')
          have e1 : (acc ++ [(⟨k, t, n, a⟩ : Tok)]).map (sh d) = acc.map (sh d) ++ [⟨k, t, n, a + d⟩] := by simp [sh]
          have e2 : a + (r.length - (skipL r').length) + d = a + d + (r.length - (skipL r').length) := by omega
          rw [e1, e2] at ih
          exact ih
theorem lexF_more : ∀ (f g : Nat) (acc : List Tok) (a : Nat) (r : List UInt8), r.length ≤ f → f ≤ g → lexF f acc a r = lexF g acc a r
  | 0, g, acc, a, r, h, _ => by
    have : r = [] := List.eq_nil_of_length_eq_zero (by omega)
    subst this
    cases g <;> simp [lexF]
  | f + 1, 0, acc, a, r, h, h' => by omega
  | f + 1, g + 1, acc, a, r, h, h' => by
    rw [lexF, lexF]
    by_cases hn : r = []
    · rw [if_pos hn, if_pos hn]
    · rw [if_neg hn, if_neg hn]
      cases ht : tokL r with
      | none => rfl
      | some x =>
        obtain ⟨k, t, n, r'⟩ := x
        simp only
        split
        · rfl
        · have h1 := tokL_len ht
          have h2 := skipL_le r'
          exact lexF_more f g _ _ _ (by omega) (by omega)
theorem skipL_same {r q : List UInt8} (h : r.dropWhile isBlk = q.dropWhile isBlk) : skipL r = skipL q := by
  cases hp : isPre [45, 45] (r.dropWhile isBlk) with
  | true => rw [skipL_go hp, skipL_go (r := q) (by rw [← h]; exact hp), h]
  | false => rw [skipL_stop hp, skipL_stop (r := q) (by rw [← h]; exact hp), h]
theorem skipL_blk {c : UInt8} (r : List UInt8) (h : isBlk c = true) : skipL (c :: r) = skipL r := skipL_same (by rw [List.dropWhile_cons, if_pos h])
theorem dropWhile_all {p : UInt8 → Bool} : ∀ (l q : List UInt8), (∀ c ∈ l, p c = true) → (l ++ q).dropWhile p = q.dropWhile p
  | [], q, _ => rfl
  | c :: l, q, h => by
    rw [List.cons_append, List.dropWhile_cons, if_pos (h c (by simp))]
    exact dropWhile_all l q fun d hd => h d (by simp [hd])
/-- The head: a blank, a tab, a remark, a newline. -/
def headL (m : List UInt8) : List UInt8 := [32, 9, 45, 45] ++ m ++ [10]
theorem skipL_head (m s : List UInt8) (h : ∀ c ∈ m, isLin c = true) : skipL (headL m ++ s) = skipL s := by
  have e : headL m ++ s = 32 :: 9 :: 45 :: 45 :: (m ++ 10 :: s) := by simp [headL]
  rw [e, skipL_blk _ (by decide), skipL_blk _ (by decide)]
  have e1 : (45 :: 45 :: (m ++ 10 :: s)).dropWhile isBlk = 45 :: 45 :: (m ++ 10 :: s) := by rw [List.dropWhile_cons, if_neg (by decide)]
  rw [skipL_go (by rw [e1]; simp [isPre]), e1, List.dropWhile_cons, if_pos (by decide), List.dropWhile_cons, if_pos (by decide), dropWhile_all m _ h, List.dropWhile_cons, if_neg (by decide)]
  exact skipL_blk s (by decide)
theorem lexL_head (m s : List UInt8) (h : ∀ c ∈ m, isLin c = true) (hs : s.length ≤ 1500) (hm : m.length ≤ 400) : lexL (headL m ++ s) = shR (headL m).length (lexL s) := by
  have hl : (headL m).length = m.length + 5 := by simp [headL]
  have h1 := skipL_le s
  unfold lexL
  rw [if_neg (by rw [List.length_append]; omega), if_neg (by omega), skipL_head m s h, List.length_append]
  have e : (headL m).length + s.length - (skipL s).length = (s.length - (skipL s).length) + (headL m).length := by omega
  rw [e, ← lexF_sh]
  exact (lexF_more s.length _ _ _ _ h1 (by omega)).symm
end Go.Proofs.YtcliineiokgenaaDoor
