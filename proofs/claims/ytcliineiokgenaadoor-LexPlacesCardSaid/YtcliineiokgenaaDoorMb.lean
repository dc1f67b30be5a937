/- Where the lexer's tokens begin; what they are. Mathematics alone; no conditions. -/
import Derived.Test.YtcliineiokgenaaDoorMa
namespace Go.Proofs.YtcliineiokgenaaDoor
set_option linter.unusedSimpArgs false
set_option linter.unusedVariables false

theorem dropWhile_suf {α} (p : α → Bool) (l : List α) : l.dropWhile p <:+ l := List.dropWhile_suffix p
theorem skipF_suf : ∀ f r, skipF f r <:+ r
  | 0, r => List.suffix_refl r
  | f + 1, r => by
    rw [skipF]
    split
    · exact (skipF_suf f _).trans ((dropWhile_suf _ _).trans (dropWhile_suf _ _))
    · exact dropWhile_suf _ _
theorem skipL_suf (r : List UInt8) : skipL r <:+ r := skipF_suf _ _
theorem qL_suf : ∀ (n : Nat) (r : List UInt8), r.length ≤ n → ∀ t r', qL r = some (t, r') → r' <:+ r
  | 0, r, h, t, r', e => by
    have : r = [] := List.eq_nil_of_length_eq_zero (by omega)
    subst this; simp [qL] at e
  | n + 1, [], h, t, r', e => by simp [qL] at e
  | n + 1, [c], h, t, r', e => by
    rw [qL] at e
    split at e
    · simp at e; obtain ⟨rfl, rfl⟩ := e; exact List.nil_suffix
    · simp at e
  | n + 1, c :: d :: q, h, t, r', e => by
    rw [qL] at e
    simp at h
    split at e
    · split at e
      · cases hq : qL q with
        | none => rw [hq] at e; simp at e
        | some x =>
          rw [hq] at e; simp at e
          obtain ⟨rfl, rfl⟩ := e
          exact (qL_suf n q (by omega) x.1 x.2 (by rw [hq])).trans ((List.suffix_cons d q).trans (List.suffix_cons c _))
      · simp at e; obtain ⟨rfl, rfl⟩ := e; exact List.suffix_cons c _
    · cases hq : qL (d :: q) with
      | none => rw [hq] at e; simp at e
      | some x =>
        rw [hq] at e; simp at e
        obtain ⟨rfl, rfl⟩ := e
        exact (qL_suf n (d :: q) (by simp; omega) x.1 x.2 (by rw [hq])).trans (List.suffix_cons c _)

/-- What a token is: its kind, its text and number; c its first octet. -/
inductive Good (c : UInt8) : Nat → List UInt8 → Nat → Prop where
  | word (t : List UInt8) (hc : isLet c = true) (ht : ∃ q, t = low c :: q) (hw : ∀ d ∈ t, isWrd d = true ∧ low d = d) (hl : t.length ≤ 16) : Good c 1 t 0
  | number (n : Nat) (hn : n ≤ 9223372036854775807) : Good c 2 [] n
  | text (t : List UInt8) (hc : isQuo c = true) (hl : t.length ≤ 64) : Good c 3 t 0
  | one (hc : isSgn c = true) : Good c 4 [c] 0
  | two (t : List UInt8) (ht : t = [60, 61] ∨ t = [62, 61] ∨ t = [60, 62]) (hc : ∃ d, t = [c, d]) : Good c 4 t 0

theorem low_let {c : UInt8} (h : isLet c = true) : isLet (low c) = true ∧ low (low c) = low c := by
  unfold low
  split
  · rename_i h1
    have h2 : (c + 32).toNat = c.toNat + 32 := by rw [UInt8.toNat_add]; simp; omega
    refine ⟨by simp [isLet]; omega, ?_⟩
    rw [if_neg (by omega)]
  · rename_i h1
    exact ⟨h, rfl⟩
theorem low_wrd {c : UInt8} (h : isWrd c = true) : isWrd (low c) = true ∧ low (low c) = low c := by
  cases hl : isLet c with
  | true => have := low_let hl; exact ⟨by simp [isWrd, this.1], this.2⟩
  | false =>
    have hd : isDig c = true := by simpa [isWrd, hl] using h
    have hn : low c = c := by simp [isDig] at hd; unfold low; rw [if_neg (by omega)]
    rw [hn]; exact ⟨h, hn⟩
theorem mem_tw {p : UInt8 → Bool} : ∀ {l : List UInt8} {c : UInt8}, c ∈ l.takeWhile p → p c = true
  | [], c, h => by simp at h
  | d :: r, c, h => by
    rw [List.takeWhile_cons] at h
    split at h
    · rcases List.mem_cons.1 h with rfl | h
      · assumption
      · exact mem_tw h
    · simp at h
theorem two_of {p r : List UInt8} {c : UInt8} (h : isPre p (c :: r) = true) (hp : p.length = 2) : ∃ d q, r = d :: q ∧ p = [c, d] := by
  have hl := isPre_len h
  cases r with
  | nil => simp at hl; omega
  | cons d q =>
    refine ⟨d, q, rfl, ?_⟩
    unfold isPre at h
    rw [hp] at h
    have := eq_of_beq h
    simpa using this.symm
theorem tokL_good {c : UInt8} {q : List UInt8} {k : Nat} {t : List UInt8} {n : Nat} {r' : List UInt8} (h : tokL (c :: q) = some (k, t, n, r')) : Good c k t n ∧ r' <:+ (c :: q) := by
  simp only [tokL] at h
  split at h
  · rename_i hc
    split at h
    · rename_i hl
      simp only [Option.some.injEq, Prod.mk.injEq] at h; obtain ⟨rfl, rfl, rfl, rfl⟩ := h
      have hw : isWrd c = true := by simp [isWrd, hc]
      refine ⟨.word _ hc ?_ ?_ (by simpa using hl), dropWhile_suf _ _⟩
      · rw [List.takeWhile_cons, if_pos hw]; exact ⟨_, rfl⟩
      · intro d hd
        obtain ⟨d0, h0, rfl⟩ := List.mem_map.1 hd
        exact low_wrd (mem_tw h0)
    · simp at h
  · split at h
    · split at h
      · rename_i hn
        simp only [Option.some.injEq, Prod.mk.injEq] at h; obtain ⟨rfl, rfl, rfl, rfl⟩ := h
        exact ⟨.number _ hn, dropWhile_suf _ _⟩
      · simp at h
    · split at h
      · rename_i hc
        split at h
        · rename_i t0 r0 hq
          split at h
          · rename_i hl
            simp only [Option.some.injEq, Prod.mk.injEq] at h; obtain ⟨rfl, rfl, rfl, rfl⟩ := h
            exact ⟨.text _ hc hl, (qL_suf _ _ (Nat.le_refl _) _ _ hq).trans (List.suffix_cons c q)⟩
          · simp at h
        · simp at h
      · split at h
        · rename_i hc
          simp only [Option.some.injEq, Prod.mk.injEq] at h; obtain ⟨rfl, rfl, rfl, rfl⟩ := h
          refine ⟨?_, List.drop_suffix _ _⟩
          unfold sgnLen
          split
          · rename_i hp
            rcases hp with hp | hp | hp
            · obtain ⟨d, q', rfl, e⟩ := two_of hp rfl
              exact .two _ (.inl (by simpa using e.symm)) ⟨d, by simp⟩
            · obtain ⟨d, q', rfl, e⟩ := two_of hp rfl
              exact .two _ (.inr (.inl (by simpa using e.symm))) ⟨d, by simp⟩
            · obtain ⟨d, q', rfl, e⟩ := two_of hp rfl
              exact .two _ (.inr (.inr (by simpa using e.symm))) ⟨d, by simp⟩
          · exact .one hc
        · simp at h

/-- A token within its text. -/
def InText (s : List UInt8) (t : Tok) : Prop := ∃ c, s[t.at_]? = some c ∧ Good c t.k t.t t.n
structure Placed (s : List UInt8) (l : List Tok) : Prop where
  all : ∀ t ∈ l, InText s t
  rise : l.Pairwise fun t u => t.at_ < u.at_
  few : l.length ≤ 400
theorem Placed.snoc {s : List UInt8} {l : List Tok} {t : Tok} (h : Placed s l) (ht : InText s t) (hr : ∀ u ∈ l, u.at_ < t.at_) (hl : l.length < 400) : Placed s (l ++ [t]) := by
  refine ⟨?_, ?_, by simp; omega⟩
  · intro u hu
    rcases List.mem_append.1 hu with hu | hu
    · exact h.all u hu
    · simp at hu; subst hu; exact ht
  · rw [List.pairwise_append]
    exact ⟨h.rise, List.pairwise_singleton _ _, fun u hu v hv => by simp at hv; subst hv; exact hr u hu⟩
def PlacedR (s : List UInt8) : LexR → Prop
  | .ok l => Placed s l
  | .err a e => a ≤ s.length ∧ (e = 91 ∨ e = 3 ∨ e = 5)
theorem lexF_placed (s : List UInt8) : ∀ (f : Nat) (acc : List Tok) (a : Nat), a ≤ s.length → Placed s acc → (∀ u ∈ acc, u.at_ < a) → PlacedR s (lexF f acc a (s.drop a))
  | 0, acc, a, _, h, _ => h
  | f + 1, acc, a, ha, h, hr => by
    rw [lexF]
    by_cases hn : s.drop a = []
    · rw [if_pos hn]; exact h
    · rw [if_neg hn]
      cases ht : tokL (s.drop a) with
      | none => exact ⟨ha, .inl rfl⟩
      | some x =>
        obtain ⟨k, t, n, r'⟩ := x
        simp only
        by_cases hf : acc.length = 400
        · rw [if_pos hf]; exact ⟨ha, .inr (.inl rfl)⟩
        · rw [if_neg hf]
          have hlt : a < s.length := by
            rcases Nat.lt_or_ge a s.length with h' | h'
            · exact h'
            · exact absurd (List.drop_eq_nil_of_le h') hn
          have hc := List.drop_eq_getElem_cons hlt
          have hlen := tokL_len ht
          have ht' := ht
          rw [hc] at ht'
          obtain ⟨hg, hs⟩ := tokL_good ht'
          rw [← hc] at hs
          have hs2 := (skipL_suf r').trans (hs.trans (List.drop_suffix a s))
          have he := List.suffix_iff_eq_drop.1 hs2
          have hsk := skipL_le r'
          rw [List.length_drop] at hlen ⊢
          have ea : a + (s.length - a - (skipL r').length) = s.length - (skipL r').length := by omega
          rw [ea]
          have e2 : skipL r' = s.drop (s.length - (skipL r').length) := he
          generalize s.length - (skipL r').length = b at ea e2 ⊢
          rw [e2]
          refine lexF_placed s f _ b (by omega) (h.snoc ⟨s[a], List.getElem?_eq_getElem hlt, hg⟩ hr (by have := h.few; omega)) ?_
          intro u hu
          rcases List.mem_append.1 hu with hu | hu
          · have := hr u hu; omega
          · simp at hu; subst hu; show a < b; omega
theorem lexL_placed (s : List UInt8) : PlacedR s (lexL s) := by
  unfold lexL
  split
  · exact ⟨by omega, .inr (.inr rfl)⟩
  · have he := List.suffix_iff_eq_drop.1 (skipL_suf s)
    generalize s.length - (skipL s).length = b at he ⊢
    rcases Nat.lt_or_ge s.length b with h | h
    · have : skipL s = [] := by rw [he]; exact List.drop_eq_nil_of_le (by omega)
      rw [this]
      have : lexF s.length [] b [] = .ok [] := by cases s.length <;> simp [lexF]
      rw [this]
      exact ⟨by simp, by simp, by simp⟩
    · rw [he]
      exact lexF_placed s _ _ b h ⟨by simp, by simp, by simp⟩ (by simp)
end Go.Proofs.YtcliineiokgenaaDoor
