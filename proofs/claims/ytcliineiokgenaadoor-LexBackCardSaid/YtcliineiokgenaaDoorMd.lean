/- Tokens written one behind the other, with blanks between, are told again. Mathematics alone; no conditions. -/
import Derived.Test.YtcliineiokgenaaDoorMc
namespace Go.Proofs.YtcliineiokgenaaDoor
set_option linter.unusedSimpArgs false
set_option linter.unusedVariables false

/-- The digits of m ahead of acc; f: at least as many as there are. -/
def decA : Nat → Nat → List UInt8 → List UInt8
  | 0, _, acc => acc
  | f + 1, m, acc => if m = 0 ∧ acc ≠ [] then acc else decA f (m / 10) (UInt8.ofNat (48 + m % 10) :: acc)
def dec (n : Nat) : List UInt8 := decA 20 n []
theorem digit_nat (m : Nat) : (UInt8.ofNat (48 + m % 10)).toNat = 48 + m % 10 := by
  simp [UInt8.toNat_ofNat']; omega
theorem decA_val : ∀ (f m : Nat) (acc : List UInt8), m < 10 ^ f → numOf (decA f m acc) = acc.foldl (fun n c => n * 10 + (c.toNat - 48)) m
  | 0, m, acc, h => by
    have : m = 0 := by simpa using h
    subst this; rfl
  | f + 1, m, acc, h => by
    rw [decA]
    split
    · rename_i h0; rw [h0.1]; rfl
    · rw [decA_val f (m / 10) _ (by rw [Nat.pow_succ] at h; omega), List.foldl_cons, digit_nat]
      congr 1
      omega
theorem decA_digs : ∀ (f m : Nat) (acc : List UInt8), (∀ c ∈ acc, isDig c = true) → ∀ c ∈ decA f m acc, isDig c = true
  | 0, m, acc, h, c, hc => h c hc
  | f + 1, m, acc, h, c, hc => by
    rw [decA] at hc
    split at hc
    · exact h c hc
    · refine decA_digs f _ _ ?_ c hc
      intro d hd
      rcases List.mem_cons.1 hd with rfl | hd
      · have := digit_nat m; simp [isDig]; omega
      · exact h d hd
theorem decA_ne : ∀ (f m : Nat) (acc : List UInt8), acc ≠ [] → decA f m acc ≠ []
  | 0, m, acc, h => h
  | f + 1, m, acc, h => by
    rw [decA]
    split
    · exact h
    · exact decA_ne f _ _ (by simp)
theorem dec_ne (n : Nat) : dec n ≠ [] := by
  unfold dec; rw [decA, if_neg (by simp)]; exact decA_ne 19 _ _ (by simp)
theorem dec_digs (n : Nat) : ∀ c ∈ dec n, isDig c = true := decA_digs 20 n [] (by simp)
theorem dec_val (n : Nat) (h : n ≤ 9223372036854775807) : numOf (dec n) = n := decA_val 20 n [] (by omega)
theorem decA_len : ∀ (f m : Nat) (acc : List UInt8), (decA f m acc).length ≤ f + acc.length
  | 0, m, acc => by simp [decA]
  | f + 1, m, acc => by
    rw [decA]
    split
    · omega
    · have := decA_len f (m / 10) (UInt8.ofNat (48 + m % 10) :: acc); rw [List.length_cons] at this; omega

/-- A string's text, each ' twice. -/
def esc : List UInt8 → List UInt8
  | [] => []
  | c :: r => if isQuo c = true then 39 :: c :: esc r else c :: esc r
theorem esc_snoc : ∀ (l : List UInt8) (c : UInt8), esc (l ++ [c]) = esc l ++ (if isQuo c = true then [39, c] else [c])
  | [], c => by simp only [List.nil_append, esc]
  | d :: l, c => by
    simp only [List.cons_append, esc, esc_snoc l c]
    split <;> simp
theorem esc_len (l : List UInt8) : (esc l).length ≤ 2 * l.length := by
  induction l with
  | nil => simp [esc]
  | cons c r ih => simp only [esc]; split <;> simp <;> omega
theorem quo39 {c : UInt8} (h : isQuo c = true) : c = 39 := by
  simp [isQuo] at h
  exact UInt8.toNat_inj.1 h
theorem qL_esc : ∀ (l r : List UInt8), qL (esc l ++ 39 :: 32 :: r) = some (l, 32 :: r)
  | [], r => by simp [esc, qL, isQuo]
  | c :: l, r => by
    have ih := qL_esc l r
    simp only [esc]
    by_cases h : isQuo c = true
    · rw [if_pos h, List.cons_append, List.cons_append, qL, if_pos (by decide), if_pos h, ih, quo39 h]; rfl
    · rw [if_neg h, List.cons_append]
      cases he : esc l ++ 39 :: 32 :: r with
      | nil => rw [he] at ih; simp [qL] at ih
      | cons d q => rw [qL, if_neg h, ← he, ih]; rfl

/-- A token as a text. -/
def wrt (k : Nat) (t : List UInt8) (n : Nat) : List UInt8 := if k = 2 then dec n else if k = 3 then 39 :: (esc t ++ [39]) else t
theorem takeWhile_stop {p : UInt8 → Bool} : ∀ (l : List UInt8) {c : UInt8} (r : List UInt8), (∀ d ∈ l, p d = true) → p c = false → (l ++ c :: r).takeWhile p = l ∧ (l ++ c :: r).dropWhile p = c :: r
  | [], c, r, _, hc => by simp [hc]
  | d :: l, c, r, h, hc => by
    obtain ⟨h1, h2⟩ := takeWhile_stop l r (fun e he => h e (by simp [he])) hc
    have hd := h d (by simp)
    simp [hd, h1, h2]
theorem sgn_plain {c : UInt8} (h : isSgn c = true) : isLet c = false ∧ isDig c = false ∧ isQuo c = false ∧ isBlk c = false := by
  simp [isSgn, signs] at h
  rcases h with rfl | rfl | rfl | rfl | rfl | rfl | rfl | rfl | rfl | rfl | rfl | rfl <;> decide
theorem map_low {l : List UInt8} (h : ∀ d ∈ l, isWrd d = true ∧ low d = d) : l.map low = l := by
  have : l.map low = l.map id := List.map_congr_left fun d hd => (h d hd).2
  rw [this, List.map_id]
/-- What is written is told; it begins with no blank and no remark. -/
theorem wrt_tok {c : UInt8} {k : Nat} {t : List UInt8} {n : Nat} (h : Good c k t n) (r : List UInt8) :
    tokL (wrt k t n ++ 32 :: r) = some (k, t, n, 32 :: r) ∧ ∃ d q, wrt k t n ++ 32 :: r = d :: q ∧ isBlk d = false ∧ isPre [45, 45] (d :: q) = false := by
  rcases h with ⟨_, hc, ht, hw, hl⟩ | ⟨_, hn⟩ | ⟨_, hc, hl⟩ | hc | ⟨_, ht, hc⟩
  · obtain ⟨q, rfl⟩ := ht
    have h1 := takeWhile_stop (p := isWrd) (low c :: q) (c := 32) r (fun d hd => (hw d hd).1) (by decide)
    have hL := (low_let hc).1
    have e : wrt 1 (low c :: q) 0 = low c :: q := rfl
    rw [e, List.cons_append] at *
    refine ⟨?_, _, _, rfl, ?_, ?_⟩
    · simp only [tokL, hL, if_true]
      rw [h1.1, h1.2, if_pos hl, map_low hw]
    · simp [isLet] at hL; simp [isBlk]; omega
    · have : ¬ low c = 45 := by intro e; rw [e] at hL; revert hL; decide
      simp [isPre, this]
  · have hd := dec_digs n
    have h1 := takeWhile_stop (p := isDig) (dec n) (c := 32) r hd (by decide)
    have hv := dec_val n hn
    have e : wrt 2 [] n = dec n := rfl
    rw [e]
    cases he : dec n with
    | nil => exact absurd he (dec_ne n)
    | cons d q =>
      rw [he] at h1 hv hd
      have hdd := hd d (by simp)
      have hnl : isLet d = false := by simp [isDig] at hdd; simp [isLet]; omega
      rw [List.cons_append] at *
      refine ⟨?_, _, _, rfl, ?_, ?_⟩
      · simp only [tokL, hnl, hdd, if_true, Bool.false_eq_true, if_false]
        rw [h1.1, h1.2, hv, if_pos hn]
      · simp [isDig] at hdd; simp [isBlk]; omega
      · have : ¬ d = 45 := by intro e; rw [e] at hdd; revert hdd; decide
        simp [isPre, this]
  · have e : wrt 3 t 0 ++ 32 :: r = 39 :: (esc t ++ 39 :: 32 :: r) := by simp [wrt]
    rw [e]
    refine ⟨?_, _, _, rfl, by decide, by simp [isPre]⟩
    have h0 : isLet 39 = false := by decide
    have h1 : isDig 39 = false := by decide
    have h2 : isQuo 39 = true := by decide
    simp only [tokL, h0, h1, h2, if_true, Bool.false_eq_true, if_false]
    rw [qL_esc]
    exact if_pos hl
  · obtain ⟨h0, h1, h2, h3⟩ := sgn_plain hc
    have e : wrt 4 [c] 0 ++ 32 :: r = c :: 32 :: r := rfl
    rw [e]
    have hs : sgnLen (c :: 32 :: r) = 1 := by simp [sgnLen, isPre]
    refine ⟨?_, _, _, rfl, h3, by simp [isPre]⟩
    simp only [tokL, h0, h1, h2, hc, if_true, Bool.false_eq_true, if_false]
    rw [hs]; rfl
  · have e : wrt 4 t 0 = t := rfl
    rw [e]
    rcases ht with rfl | rfl | rfl
    all_goals
      refine ⟨?_, _, _, rfl, by decide, by simp [isPre]⟩
      simp [tokL, isLet, isDig, isQuo, isSgn, signs, sgnLen, isPre]

def textL : List Tok → List UInt8
  | [] => []
  | t :: l => wrt t.k t.t t.n ++ 32 :: textL l
/-- The tokens at their new places, from a on. -/
def posL : Nat → List Tok → List Tok
  | _, [] => []
  | a, t :: l => ⟨t.k, t.t, t.n, a⟩ :: posL (a + (wrt t.k t.t t.n).length + 1) l
theorem posL_len : ∀ (a : Nat) (l : List Tok), (posL a l).length = l.length
  | _, [] => rfl
  | a, t :: l => by simp [posL, posL_len _ l]
theorem textL_snoc : ∀ (l : List Tok) (t : Tok), textL (l ++ [t]) = textL l ++ wrt t.k t.t t.n ++ [32]
  | [], t => by simp [textL]
  | u :: l, t => by simp [textL, textL_snoc l t]
theorem posL_snoc : ∀ (a : Nat) (l : List Tok) (t : Tok), posL a (l ++ [t]) = posL a l ++ [⟨t.k, t.t, t.n, a + (textL l).length⟩]
  | a, [], t => by simp [posL, textL]
  | a, u :: l, t => by
    simp only [List.cons_append, posL, posL_snoc _ l t, textL, List.length_append, List.length_cons]
    have e : a + (wrt u.k u.t u.n).length + 1 + (textL l).length = a + ((wrt u.k u.t u.n).length + ((textL l).length + 1)) := by omega
    rw [e]
theorem skipL_plain {d : UInt8} {q : List UInt8} (h : isBlk d = false) (h2 : isPre [45, 45] (d :: q) = false) : skipL (d :: q) = d :: q := by
  have e : (d :: q).dropWhile isBlk = d :: q := by rw [List.dropWhile_cons, if_neg (by simp [h])]
  rw [skipL_stop (by rw [e]; exact h2), e]
theorem skip_text : ∀ (l : List Tok), (∀ t ∈ l, ∃ c, Good c t.k t.t t.n) → skipL (textL l) = textL l
  | [], _ => rfl
  | t :: l, h => by
    obtain ⟨c, hg⟩ := h t (by simp)
    obtain ⟨_, d, q, e, h1, h2⟩ := wrt_tok hg (textL l)
    show skipL (wrt t.k t.t t.n ++ 32 :: textL l) = wrt t.k t.t t.n ++ 32 :: textL l
    rw [e]; exact skipL_plain h1 h2
theorem lex_text : ∀ (l : List Tok) (f : Nat) (acc : List Tok) (a : Nat), (∀ t ∈ l, ∃ c, Good c t.k t.t t.n) → acc.length + l.length ≤ 400 → (textL l).length ≤ f → lexF f acc a (textL l) = .ok (acc ++ posL a l)
  | [], f, acc, a, _, _, _ => by cases f <;> simp [lexF, textL, posL]
  | t :: l, f, acc, a, h, hn, hf => by
    obtain ⟨c, hg⟩ := h t (by simp)
    obtain ⟨ht, d, q, e, h1, h2⟩ := wrt_tok hg (textL l)
    have he : textL (t :: l) = wrt t.k t.t t.n ++ 32 :: textL l := rfl
    have hlen : (textL (t :: l)).length = (wrt t.k t.t t.n).length + (textL l).length + 1 := by rw [he]; simp; omega
    obtain ⟨f', rfl⟩ : ∃ f', f = f' + 1 := ⟨f - 1, by omega⟩
    have hl := h
    simp at hn
    rw [lexF, if_neg (by rw [he, e]; simp), he, ht]
    simp only
    rw [if_neg (by omega), skipL_blk _ (by decide), skip_text l fun u hu => h u (by simp [hu])]
    rw [lex_text l f' _ _ (fun u hu => h u (by simp [hu])) (by simp; omega) (by rw [hlen] at hf; omega)]
    have e2 : a + ((wrt t.k t.t t.n ++ 32 :: textL l).length - (textL l).length) = a + (wrt t.k t.t t.n).length + 1 := by simp; omega
    rw [e2]
    simp [posL]
theorem lexL_text (l : List Tok) (h : ∀ t ∈ l, ∃ c, Good c t.k t.t t.n) (hn : l.length ≤ 400) (hl : (textL l).length ≤ 2048) : lexL (textL l) = .ok (posL 0 l) := by
  unfold lexL
  rw [if_neg (by omega), skip_text l h, Nat.sub_self, lex_text l _ [] 0 h (by simpa using hn) (Nat.le_refl _)]
  rfl
end Go.Proofs.YtcliineiokgenaaDoor
