/- The lexer by plain lists of octets: what a text's tokens are. Mathematics alone; no conditions. -/
namespace Go.Proofs.YtlehmnbigocgdaaGreatDoor.Lx
set_option linter.unusedSimpArgs false
set_option linter.unusedVariables false

def isLet (c : UInt8) : Bool := decide (97 ≤ c.toNat ∧ c.toNat ≤ 122) || decide (65 ≤ c.toNat ∧ c.toNat ≤ 90) || decide (c.toNat = 95)
def isDig (c : UInt8) : Bool := decide (48 ≤ c.toNat ∧ c.toNat ≤ 57)
def isWrd (c : UInt8) : Bool := isLet c || isDig c
def isBlk (c : UInt8) : Bool := decide (c.toNat = 32) || decide (c.toNat = 9) || decide (c.toNat = 10)
def isLin (c : UInt8) : Bool := !decide (c.toNat = 10)
def isQuo (c : UInt8) : Bool := decide (c.toNat = 39)
def isNqu (c : UInt8) : Bool := !isQuo c
def signs : List UInt8 := [40, 41, 44, 46, 42, 43, 45, 47, 61, 60, 62, 59]
def isSgn (c : UInt8) : Bool := signs.contains c

def low (c : UInt8) : UInt8 := if 65 ≤ c.toNat ∧ c.toNat ≤ 90 then c + 32 else c

def isPre (p r : List UInt8) : Bool := r.take p.length == p

/-- What is left behind what stands between tokens; f: at least as many as the octets. -/
def skipF : Nat → List UInt8 → List UInt8
  | 0, r => r
  | f + 1, r => if isPre [45, 45] (r.dropWhile isBlk) = true then skipF f ((r.dropWhile isBlk).dropWhile isLin) else r.dropWhile isBlk
def skipL (r : List UInt8) : List UInt8 := skipF r.length r

/-- A string behind its first sign: its text, what is left. -/
def qL : List UInt8 → Option (List UInt8 × List UInt8)
  | [] => none
  | [c] => if isQuo c = true then some ([], []) else none
  | c :: d :: r => if isQuo c = true then (if isQuo d = true then (qL r).map fun x => (c :: x.1, x.2) else some ([], d :: r)) else (qL (d :: r)).map fun x => (c :: x.1, x.2)

/-- The number that digits say. -/
def numOf (l : List UInt8) : Nat := l.foldl (fun n c => n * 10 + (c.toNat - 48)) 0

/-- How many octets the sign ahead has. -/
def sgnLen (r : List UInt8) : Nat := if isPre [60, 61] r = true ∨ isPre [62, 61] r = true ∨ isPre [60, 62] r = true then 2 else 1

structure Tok where
  k : Nat
  t : List UInt8
  n : Nat
  at_ : Nat
  deriving DecidableEq

/-- The token ahead: kind, text, number; what is left. -/
def tokL (r : List UInt8) : Option (Nat × List UInt8 × Nat × List UInt8) :=
  match r with
  | [] => none
  | c :: q =>
    if isLet c = true then (if (r.takeWhile isWrd).length ≤ 16 then some (1, (r.takeWhile isWrd).map low, 0, r.dropWhile isWrd) else none)
    else if isDig c = true then (if numOf (r.takeWhile isDig) ≤ 9223372036854775807 then some (2, [], numOf (r.takeWhile isDig), r.dropWhile isDig) else none)
    else if isQuo c = true then (match qL q with | some (t, r') => if t.length ≤ 64 then some (3, t, 0, r') else none | none => none)
    else if isSgn c = true then some (4, r.take (sgnLen r), 0, r.drop (sgnLen r))
    else none

inductive LexR where
  | ok (l : List Tok)
  | err (at_ : Nat) (e : Nat)
  deriving DecidableEq

/-- The tokens from place a on, r what is left there (skipped to a token or none). -/
def lexF : Nat → List Tok → Nat → List UInt8 → LexR
  | 0, acc, _, _ => .ok acc
  | f + 1, acc, a, r => if r = [] then .ok acc else
    match tokL r with
    | none => .err a 91
    | some (k, t, n, r') => if acc.length = 400 then .err a 3 else lexF f (acc ++ [⟨k, t, n, a⟩]) (a + (r.length - (skipL r').length)) (skipL r')
def lexL (s : List UInt8) : LexR := if s.length > 2048 then .err 0 5 else lexF s.length [] (s.length - (skipL s).length) (skipL s)

theorem dropWhile_le {α} (p : α → Bool) (l : List α) : (l.dropWhile p).length ≤ l.length := by
  induction l with
  | nil => simp
  | cons c r ih => rw [List.dropWhile_cons]; split <;> simp <;> omega
theorem tw_dw {α} (p : α → Bool) (l : List α) : (l.takeWhile p).length + (l.dropWhile p).length = l.length := by
  have := congrArg List.length (List.takeWhile_append_dropWhile (p := p) (l := l)); rw [List.length_append] at this; exact this
theorem drop_tw {α} (p : α → Bool) (l : List α) : l.drop (l.takeWhile p).length = l.dropWhile p := by
  have h := List.takeWhile_append_dropWhile (p := p) (l := l)
  have h2 := congrArg (List.drop (l.takeWhile p).length) h
  rw [List.drop_left] at h2
  exact h2.symm
theorem take_tw {α} (p : α → Bool) (l : List α) : l.take (l.takeWhile p).length = l.takeWhile p := by
  have h := List.takeWhile_append_dropWhile (p := p) (l := l)
  have h2 := congrArg (List.take (l.takeWhile p).length) h
  rw [List.take_left] at h2
  exact h2.symm
theorem skipF_le : ∀ f r, (skipF f r).length ≤ r.length
  | 0, r => Nat.le_refl _
  | f + 1, r => by
    have h1 := dropWhile_le isBlk r
    rw [skipF]
    split
    · have h2 := dropWhile_le isLin (r.dropWhile isBlk)
      have h3 := skipF_le f ((r.dropWhile isBlk).dropWhile isLin)
      omega
    · exact h1
theorem skipL_le (r : List UInt8) : (skipL r).length ≤ r.length := skipF_le _ _
theorem isPre_len {p r : List UInt8} (h : isPre p r = true) : p.length ≤ r.length := by
  unfold isPre at h
  have := congrArg List.length (eq_of_beq h)
  rw [List.length_take] at this
  omega
theorem dash {r : List UInt8} (h : isPre [45, 45] r = true) : (r.dropWhile isLin).length + 2 ≤ r.length := by
  have hl := isPre_len h
  match r, hl with
  | c :: d :: q, _ =>
    simp [isPre] at h
    obtain ⟨rfl, rfl⟩ := h
    rw [List.dropWhile_cons, if_pos (by decide), List.dropWhile_cons, if_pos (by decide)]
    have := dropWhile_le isLin q
    simp; omega
theorem skipF_more : ∀ f g r, r.length ≤ f → f ≤ g → skipF f r = skipF g r
  | 0, g, r, h, _ => by
    have : r = [] := List.eq_nil_of_length_eq_zero (by omega)
    subst this
    cases g <;> simp [skipF, isPre]
  | f + 1, 0, r, h, h' => by omega
  | f + 1, g + 1, r, h, h' => by
    rw [skipF, skipF]
    by_cases hp : isPre [45, 45] (r.dropWhile isBlk) = true
    · rw [if_pos hp, if_pos hp]
      have h1 := dropWhile_le isBlk r
      have h2 := dash hp
      exact skipF_more f g _ (by omega) (by omega)
    · rw [if_neg hp, if_neg hp]
theorem skipL_go {r : List UInt8} (hp : isPre [45, 45] (r.dropWhile isBlk) = true) : skipL r = skipL ((r.dropWhile isBlk).dropWhile isLin) := by
  have h1 := dropWhile_le isBlk r
  have h2 := dash hp
  unfold skipL
  obtain ⟨f, hf⟩ : ∃ f, r.length = f + 1 := ⟨r.length - 1, by omega⟩
  rw [hf, skipF, if_pos hp]
  exact (skipF_more _ f _ (Nat.le_refl _) (by omega)).symm
theorem skipL_stop {r : List UInt8} (hp : isPre [45, 45] (r.dropWhile isBlk) = false) : skipL r = r.dropWhile isBlk := by
  unfold skipL
  cases r with
  | nil => rfl
  | cons c q => rw [List.length_cons, skipF, if_neg (by simp [hp])]
theorem qL_len : ∀ (n : Nat) (r : List UInt8), r.length ≤ n → ∀ t r', qL r = some (t, r') → r'.length < r.length ∧ t.length + r'.length < r.length
  | 0, r, h, t, r', e => by
    have : r = [] := List.eq_nil_of_length_eq_zero (by omega)
    subst this; simp [qL] at e
  | n + 1, [], h, t, r', e => by simp [qL] at e
  | n + 1, [c], h, t, r', e => by
    rw [qL] at e
    split at e
    · simp at e; obtain ⟨rfl, rfl⟩ := e; simp
    · simp at e
  | n + 1, c :: d :: q, h, t, r', e => by
    rw [qL] at e
    simp at h
    split at e
    · split at e
      · cases hq : qL q with
        | none => rw [hq] at e; simp at e
        | some x =>
          rw [hq] at e; simp at e
          obtain ⟨rfl, rfl⟩ := e
          have := qL_len n q (by omega) x.1 x.2 (by rw [hq])
          simp; omega
      · simp at e; obtain ⟨rfl, rfl⟩ := e; simp
    · cases hq : qL (d :: q) with
      | none => rw [hq] at e; simp at e
      | some x =>
        rw [hq] at e; simp at e
        obtain ⟨rfl, rfl⟩ := e
        have := qL_len n (d :: q) (by simp; omega) x.1 x.2 (by rw [hq])
        simp at this ⊢; omega
theorem qL_run : ∀ r, qL r = (qL (r.dropWhile isNqu)).map fun x => (r.takeWhile isNqu ++ x.1, x.2)
  | [] => by simp [qL]
  | [c] => by
    by_cases h : isQuo c = true
    · have : isNqu c = false := by simp [isNqu, h]
      simp [this, qL, h]
    · have : isNqu c = true := by simp [isNqu, h]
      simp [this, qL, h]
  | c :: d :: q => by
    by_cases h : isQuo c = true
    · have : isNqu c = false := by simp [isNqu, h]
      rw [List.dropWhile_cons, List.takeWhile_cons]
      simp [this]
    · have : isNqu c = true := by simp [isNqu, h]
      rw [List.dropWhile_cons, List.takeWhile_cons, qL, if_neg h]
      simp only [this, if_true]
      rw [qL_run (d :: q)]
      simp only [Option.map_map]
      rfl
theorem sgnLen_le (c : UInt8) (q : List UInt8) : 1 ≤ sgnLen (c :: q) ∧ sgnLen (c :: q) ≤ (c :: q).length := by
  unfold sgnLen
  split
  · rename_i h
    rcases h with h | h | h <;> (have := isPre_len h; simp at this ⊢; omega)
  · simp
theorem tokL_len {r : List UInt8} {k : Nat} {t : List UInt8} {n : Nat} {r' : List UInt8} (h : tokL r = some (k, t, n, r')) : r'.length < r.length := by
  unfold tokL at h
  split at h
  · simp at h
  · rename_i c q
    have one : ∀ p : UInt8 → Bool, p c = true → ((c :: q).dropWhile p).length < (c :: q).length := fun p hp => by
      rw [List.dropWhile_cons, if_pos hp]; have := dropWhile_le p q; simp; omega
    split at h
    · rename_i hc
      split at h
      · simp at h; obtain ⟨rfl, rfl, rfl, rfl⟩ := h; exact one _ (by simp [isWrd, hc])
      · simp at h
    · split at h
      · rename_i hc
        split at h
        · simp at h; obtain ⟨rfl, rfl, rfl, rfl⟩ := h; exact one _ hc
        · simp at h
      · split at h
        · split at h
          · rename_i hq
            split at h
            · simp at h; obtain ⟨rfl, rfl, rfl, rfl⟩ := h
              have := qL_len _ _ (Nat.le_refl _) _ _ hq
              simp; omega
            · simp at h
          · simp at h
        · split at h
          · simp at h; obtain ⟨rfl, rfl, rfl, rfl⟩ := h
            have := sgnLen_le c q
            rw [List.length_drop]; omega
          · simp at h
end Go.Proofs.YtlehmnbigocgdaaGreatDoor.Lx
