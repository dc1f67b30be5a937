/- Reading a key: what is read is built again, what is built is read: plain mathematics. Conditions: values that may be, numbers of 64 bits. -/
import Derived.Test.YtapichngakcpeaaMb
namespace Go.Proofs.Ytapichngakcpeaa
set_option linter.unusedSimpArgs false
set_option linter.unusedVariables false

def numD (a : Int) (k : Nat) (r : List UInt8) : Except Int (Int × List UInt8) :=
  if r.length < k then .error 8
  else if need (amt (valF a (r.take k))) ≠ k ∨ 9223372036854775807 < amt (valF a (r.take k)) then .error 1
  else .ok (valF a (r.take k), r.drop k)
def app (acc : List UInt8) (c : UInt8) : List UInt8 := if acc.length ≤ 64 then acc ++ [c] else acc
def txtD : List UInt8 → List UInt8 → Except Int (List UInt8 × List UInt8)
  | acc, [] => .error 8
  | acc, c :: r =>
    if c = 0 then (if 64 < acc.length then .error 5 else .ok (acc, r))
    else if c = 1 then
      match r with
      | [] => .error 8
      | d :: r' => if d = 1 then txtD (app acc 0) r' else if d = 2 then txtD (app acc 1) r' else .error 1
    else txtD (app acc c) r
def valD : List UInt8 → Except Int (Vl × List UInt8)
  | [] => .error 8
  | f :: r =>
    if f.toNat = 4 then .ok (⟨0, 0, ⟨#[]⟩⟩, r)
    else if 55 ≤ f.toNat ∧ f.toNat ≤ 63 then
      match numD (-1) (63 - f.toNat) r with
      | .error e => .error e
      | .ok (n, r') => .ok (⟨1, n, ⟨#[]⟩⟩, r')
    else if 64 ≤ f.toNat ∧ f.toNat ≤ 72 then
      match numD 0 (f.toNat - 64) r with
      | .error e => .error e
      | .ok (n, r') => .ok (⟨1, n, ⟨#[]⟩⟩, r')
    else if f.toNat = 80 ∨ f.toNat = 81 then .ok (⟨2, (f.toNat : Int) - 80, ⟨#[]⟩⟩, r)
    else if f.toNat = 96 then
      match txtD [] r with
      | .error e => .error e
      | .ok (t, r') => .ok (⟨3, 0, ⟨t.toArray⟩⟩, r')
    else .error 22
def fin (acc : List Vl) : Except Int (List Vl) := if 64 < acc.length then .error 3 else .ok acc
def capp (acc : List Vl) (v : Vl) : List Vl := if acc.length ≤ 64 then acc ++ [v] else acc
def lstD : Nat → List Vl → List UInt8 → Except Int (List Vl)
  | _, acc, [] => fin acc
  | 0, _, _ :: _ => .error 8
  | f + 1, acc, c :: r =>
    match valD (c :: r) with
    | .error e => .error e
    | .ok (v, r') => lstD f (capp acc v) r'
def decD (s : List UInt8) : Except Int (List Vl) := lstD s.length [] s

theorem valF_bounds : ∀ (k : Nat) (l : List UInt8) (a : Int), l.length = k → valF a l / 256 ^ k = a
  | 0, l, a, h => by
    have : l = [] := List.eq_nil_of_length_eq_zero h
    subst this; simp [valF]
  | k + 1, l, a, h => by
    rcases List.eq_nil_or_concat l with rfl | ⟨L, b, rfl⟩
    · simp at h
    · rw [List.concat_eq_append] at *
      have hk : L.length = k := by simpa using h
      have hb := b.toNat_lt
      have h1 : (256 * valF a L + (b.toNat : Int)) / 256 = valF a L := by omega
      have hp : (256 : Int) ^ (k + 1) = 256 * 256 ^ k := by rw [Int.pow_succ, Int.mul_comm]
      rw [valF_snoc, hp, ← Int.ediv_ediv_of_nonneg (by omega), h1]
      exact valF_bounds k L a hk
theorem valF_neg {l : List UInt8} : valF (-1) l < 0 := by
  have h := valF_bounds l.length l (-1) rfl
  have hp := pow_pos' l.length
  rcases Int.lt_or_le (valF (-1) l) 0 with h1 | h1
  · exact h1
  · have := Int.ediv_nonneg h1 (Int.le_of_lt hp); omega
theorem valF_nonneg {l : List UInt8} : 0 ≤ valF 0 l := by
  have h := valF_bounds l.length l 0 rfl
  have hp := pow_pos' l.length
  rcases Int.lt_or_le (valF 0 l) 0 with h1 | h1
  · have := Int.ediv_neg_of_neg_of_pos h1 hp; omega
  · exact h1

theorem numD_ok {a : Int} {k : Nat} {r r' : List UInt8} {n : Int} (h : numD a k r = .ok (n, r')) :
    r = octs k n ++ r' ∧ need (amt n) = k ∧ amt n ≤ 9223372036854775807 ∧ n / 256 ^ k = a := by
  unfold numD at h
  by_cases hl : r.length < k
  · rw [if_pos hl] at h; cases h
  · rw [if_neg hl] at h
    split at h
    · cases h
    · rename_i hc
      injection h with h
      injection h with h1 h2
      subst h1
      subst h2
      have hk : (r.take k).length = k := by rw [List.length_take]; omega
      refine ⟨?_, by omega, by omega, valF_bounds k _ a hk⟩
      rw [octs_val k _ a hk, List.take_append_drop]
theorem numD_octs {a : Int} {k : Nat} {n : Int} {r : List UInt8} (h1 : n / 256 ^ k = a) (h2 : need (amt n) = k) (h3 : amt n ≤ 9223372036854775807) : numD a k (octs k n ++ r) = .ok (n, r) := by
  have hk := octs_length k n
  have ht : (octs k n ++ r).take k = octs k n := by rw [List.take_append_of_le_length (by omega), List.take_of_length_le (by omega)]
  have hd : (octs k n ++ r).drop k = r := by rw [List.drop_append, List.drop_of_length_le (by omega)]; simp [hk]
  unfold numD
  rw [if_neg (by simp [hk]), ht, hd, val_octs k n a h1, if_neg (by omega)]

theorem app_len (acc : List UInt8) (c : UInt8) : (app acc c).length = if acc.length ≤ 64 then acc.length + 1 else acc.length := by unfold app; split <;> simp
theorem txtD_cons (acc : List UInt8) (c : UInt8) (r : List UInt8) : txtD acc (c :: r) =
    if c = 0 then (if 64 < acc.length then .error 5 else .ok (acc, r))
    else if c = 1 then
      match r with
      | [] => .error 8
      | d :: r' => if d = 1 then txtD (app acc 0) r' else if d = 2 then txtD (app acc 1) r' else .error 1
    else txtD (app acc c) r := by
  rw [txtD.eq_def]
theorem txtD_nil (acc : List UInt8) : txtD acc [] = .error 8 := by rw [txtD.eq_def]
theorem txtD_ok : ∀ (r : List UInt8) (acc t r' : List UInt8), txtD acc r = .ok (t, r') → ∃ u, t = acc ++ u ∧ r = esc u ++ 0 :: r' ∧ t.length ≤ 64
  | [], acc, t, r', h => by rw [txtD_nil] at h; cases h
  | c :: r, acc, t, r', h => by
    have step : ∀ (x : UInt8) (R : List UInt8), R.length ≤ r.length → txtD (app acc x) R = .ok (t, r') → ∃ u, t = acc ++ u ∧ esc1 x ++ R = esc u ++ 0 :: r' ∧ t.length ≤ 64 := by
      intro x R hR hx
      obtain ⟨u, h1, h2, h3⟩ := txtD_ok R (app acc x) t r' hx
      unfold app at h1
      split at h1
      · exact ⟨x :: u, by rw [h1]; simp, by rw [h2]; simp [esc], h3⟩
      · have : t.length = acc.length + u.length := by rw [h1]; simp
        omega
    rw [txtD_cons] at h
    by_cases c0 : c = 0
    · rw [if_pos c0] at h
      split at h
      · cases h
      · injection h with h
        injection h with h1 h2
        subst h1 h2
        exact ⟨[], by simp, by simp [esc, c0], by omega⟩
    · rw [if_neg c0] at h
      by_cases c1 : c = 1
      · rw [if_pos c1] at h
        cases r with
        | nil => cases h
        | cons d R =>
          simp only at h
          by_cases d1 : d = 1
          · rw [if_pos d1] at h
            obtain ⟨u, h1, h2, h3⟩ := step 0 R (by simp) h
            exact ⟨u, h1, by rw [← h2, c1, d1]; simp [esc1], h3⟩
          · rw [if_neg d1] at h
            by_cases d2 : d = 2
            · rw [if_pos d2] at h
              obtain ⟨u, h1, h2, h3⟩ := step 1 R (by simp) h
              exact ⟨u, h1, by rw [← h2, c1, d2]; simp [esc1], h3⟩
            · rw [if_neg d2] at h; cases h
      · rw [if_neg c1] at h
        obtain ⟨u, h1, h2, h3⟩ := step c r (Nat.le_refl _) h
        exact ⟨u, h1, by rw [← h2]; simp [esc1, c0, c1], h3⟩
termination_by r => r.length
theorem txtD_esc : ∀ (u acc r : List UInt8), acc.length + u.length ≤ 64 → txtD acc (esc u ++ 0 :: r) = .ok (acc ++ u, r)
  | [], acc, r, h => by
    have : ¬ 64 < acc.length := by simp at h; omega
    simp [esc, txtD_cons, this]
  | c :: u, acc, r, h => by
    have ha : acc.length ≤ 64 := by simp at h; omega
    have ih := txtD_esc u (app acc c) r (by rw [app_len, if_pos ha]; simp at h; omega)
    have happ : app acc c = acc ++ [c] := by simp [app, ha]
    rw [happ] at ih
    simp only [esc, List.append_assoc]
    unfold esc1
    by_cases c0 : c = 0
    · subst c0
      have e : txtD acc ([1, 1] ++ (esc u ++ 0 :: r)) = txtD (app acc 0) (esc u ++ 0 :: r) := by simp [txtD_cons]
      rw [if_pos rfl, e, happ, ih]; simp
    · rw [if_neg c0]
      by_cases c1 : c = 1
      · subst c1
        have e : txtD acc ([1, 2] ++ (esc u ++ 0 :: r)) = txtD (app acc 1) (esc u ++ 0 :: r) := by simp [txtD_cons]
        rw [if_pos rfl, e, happ, ih]; simp
      · have e : txtD acc ([c] ++ (esc u ++ 0 :: r)) = txtD (app acc c) (esc u ++ 0 :: r) := by simp [txtD_cons, c0, c1]
        rw [if_neg c1, e, happ, ih]; simp

theorem oct_eq {n : Int} {f : UInt8} (h0 : 0 ≤ n) (h1 : n < 256) (h : (f.toNat : Int) = n) : oct n = f := by
  have := oct_toNat n
  apply UInt8.toNat_inj.1
  omega
theorem valD_ok {r r' : List UInt8} {v : Vl} (h : valD r = .ok (v, r')) : r = enc1 v ++ r' ∧ okV v := by
  cases r with
  | nil => cases h
  | cons f r =>
    have hf := f.toNat_lt
    rw [valD] at h
    by_cases b0 : f.toNat = 4
    · rw [if_pos b0] at h
      injection h with h
      injection h with h1 h2
      subst h1 h2
      refine ⟨?_, by simp [mayB, ByteArray.toList_eq], by decide⟩
      have : f = 4 := UInt8.toNat_inj.1 b0
      simp [enc1, this]
    · rw [if_neg b0] at h
      by_cases b1 : 55 ≤ f.toNat ∧ f.toNat ≤ 63
      · rw [if_pos b1] at h
        split at h
        · cases h
        · rename_i n R hn
          injection h with h
          injection h with h1 h2
          subst h1 h2
          obtain ⟨g1, g2, g3, g4⟩ := numD_ok hn
          have hneg : n < 0 := by
            rcases Int.lt_or_le n 0 with h | h
            · exact h
            · have := Int.ediv_nonneg h (Int.le_of_lt (pow_pos' (63 - f.toNat))); omega
          have hin : inR n = true := by rw [inR_iff]; unfold amt at g3; rw [if_pos hneg] at g3; omega
          refine ⟨?_, by simp [mayB, ByteArray.toList_eq], hin⟩
          have e : oct (63 - (need (amt n) : Int)) = f := oct_eq (by omega) (by omega) (by omega)
          rw [g2] at e
          simp only [enc1, if_true, numK, if_pos hneg, g2, e]
          rw [g1]; simp
      · rw [if_neg b1] at h
        by_cases b2 : 64 ≤ f.toNat ∧ f.toNat ≤ 72
        · rw [if_pos b2] at h
          split at h
          · cases h
          · rename_i n R hn
            injection h with h
            injection h with h1 h2
            subst h1 h2
            obtain ⟨g1, g2, g3, g4⟩ := numD_ok hn
            have hneg : ¬ n < 0 := by
              intro h
              have := Int.ediv_neg_of_neg_of_pos h (pow_pos' (f.toNat - 64)); omega
            have hin : inR n = true := by rw [inR_iff]; unfold amt at g3; rw [if_neg hneg] at g3; omega
            refine ⟨?_, by simp [mayB, ByteArray.toList_eq], hin⟩
            have e : oct (64 + (need (amt n) : Int)) = f := oct_eq (by omega) (by omega) (by omega)
            rw [g2] at e
            simp only [enc1, if_true, numK, if_neg hneg, g2, e]
            rw [g1]; simp
        · rw [if_neg b2] at h
          by_cases b3 : f.toNat = 80 ∨ f.toNat = 81
          · rw [if_pos b3] at h
            injection h with h
            injection h with h1 h2
            subst h1 h2
            refine ⟨?_, by simp [mayB, ByteArray.toList_eq]; omega, by rw [inR_iff]; simp only; omega⟩
            have e : oct (80 + ((f.toNat : Int) - 80)) = f := oct_eq (by omega) (by omega) (by omega)
            simp [enc1, e]
          · rw [if_neg b3] at h
            by_cases b4 : f.toNat = 96
            · rw [if_pos b4] at h
              split at h
              · cases h
              · rename_i t R ht
                injection h with h
                injection h with h1 h2
                subst h1 h2
                obtain ⟨u, g1, g2, g3⟩ := txtD_ok _ _ _ _ ht
                have : f = 96 := UInt8.toNat_inj.1 b4
                refine ⟨?_, by simp [mayB, ByteArray.size]; omega, (by show inR 0 = true; decide)⟩
                simp at g1
                subst g1
                simp [enc1, textK, this, g2]
            · rw [if_neg b4] at h; cases h
theorem valD_enc {v : Vl} (h : okV v) (r : List UInt8) : valD (enc1 v ++ r) = .ok (v, r) := by
  obtain ⟨k, n, s⟩ := v
  obtain ⟨hm, hn⟩ := h
  simp only at hm hn
  rcases mayB_kind hm with rfl | rfl | rfl | rfl
  · obtain ⟨rfl, rfl⟩ := mayB0 hm rfl
    simp [enc1, valD]
  · obtain rfl := mayB1 hm rfl
    have h8 := need8 hn
    have hl := amt_lt n
    have ha : amt n ≤ 9223372036854775807 := by rw [inR_iff] at hn; unfold amt; split <;> omega
    by_cases h0 : n < 0
    · have hd := numD_octs (r := r) (div_neg h0 hl) rfl ha
      have ht := oct_toNat (63 - (need (amt n) : Int))
      have hf : (oct (63 - (need (amt n) : Int))).toNat = 63 - need (amt n) := by omega
      have hk : 63 - (63 - need (amt n)) = need (amt n) := by omega
      simp only [enc1, if_true, numK, if_pos h0, List.cons_append]
      rw [valD, if_neg (by omega), if_pos (by omega), hf, hk, hd]
    · have hd := numD_octs (r := r) (div_nonneg' h0 hl) rfl ha
      have ht := oct_toNat (64 + (need (amt n) : Int))
      have hf : (oct (64 + (need (amt n) : Int))).toNat = 64 + need (amt n) := by omega
      have hk : 64 + need (amt n) - 64 = need (amt n) := by omega
      simp only [enc1, if_true, numK, if_neg h0, List.cons_append]
      rw [valD, if_neg (by omega), if_neg (by omega), if_pos (by omega), hf, hk, hd]
  · obtain ⟨h01, rfl⟩ := mayB2 hm rfl
    have ht := oct_toNat (80 + n)
    have e : enc1 ⟨2, n, ⟨#[]⟩⟩ = [oct (80 + n)] := by simp [enc1]
    rw [e, List.singleton_append, valD, if_neg (by omega), if_neg (by omega), if_neg (by omega), if_pos (by omega)]
    have : ((oct (80 + n)).toNat : Int) - 80 = n := by omega
    rw [this]
  · obtain ⟨rfl, hs⟩ := mayB3 hm rfl
    have hl : s.data.toList.length ≤ 64 := by simpa using hs
    have ht := txtD_esc s.data.toList [] r (by simpa using hl)
    have e : enc1 ⟨3, 0, s⟩ = 96 :: (esc s.data.toList ++ [0]) := by simp [enc1, textK]
    have e2 : (96 :: (esc s.data.toList ++ [0])) ++ r = 96 :: (esc s.data.toList ++ 0 :: r) := by simp
    have e3 : (96 : UInt8).toNat = 96 := rfl
    rw [e, e2, valD, e3]
    simp [ht]

theorem lstD_ok : ∀ (f : Nat) (acc : List Vl) (r : List UInt8) (l : List Vl), lstD f acc r = .ok l → ∃ m, r = encL m ∧ okL m ∧ l = acc ++ m ∧ l.length ≤ 64
  | f, acc, [], l, h => by
    rw [lstD] at h
    unfold fin at h
    split at h
    · cases h
    · injection h with h
      subst h
      exact ⟨[], rfl, (by intro v hv; cases hv), by simp, by omega⟩
  | 0, acc, c :: r, l, h => by rw [lstD] at h; cases h
  | f + 1, acc, c :: r, l, h => by
    rw [lstD] at h
    split at h
    · cases h
    · rename_i v r' hv
      obtain ⟨g1, g2⟩ := valD_ok hv
      obtain ⟨m, h1, h2, h3, h4⟩ := lstD_ok f _ _ _ h
      unfold capp at h3
      split at h3
      · refine ⟨v :: m, by rw [g1, h1]; rfl, ?_, by rw [h3]; simp, h4⟩
        intro x hx
        rcases List.mem_cons.1 hx with rfl | hx
        · exact g2
        · exact h2 x hx
      · have : l.length = acc.length + m.length := by rw [h3]; simp
        omega
theorem enc1_pos {v : Vl} (h : okV v) : 0 < (enc1 v).length := by
  obtain ⟨b, t, e, _⟩ := enc1_head h
  rw [e]; simp
theorem lstD_enc : ∀ (m : List Vl) (f : Nat) (acc : List Vl), okL m → acc.length + m.length ≤ 64 → (encL m).length ≤ f → lstD f acc (encL m) = .ok (acc ++ m)
  | [], f, acc, _, h, _ => by
    have : ¬ 64 < acc.length := by simp at h; omega
    simp [encL, lstD, fin, this]
  | v :: m, f, acc, hm, h, hf => by
    obtain ⟨b, t, e, _⟩ := enc1_head (hm v (by simp))
    have hp := enc1_pos (hm v (by simp))
    simp only [encL, List.length_append] at hf
    obtain ⟨f', rfl⟩ : ∃ f', f = f' + 1 := ⟨f - 1, by omega⟩
    have hv := valD_enc (hm v (by simp)) (encL m)
    have ih := lstD_enc m f' (capp acc v) (fun x hx => hm x (by simp [hx])) (by
      unfold capp
      simp at h
      rw [if_pos (by omega)]; simp; omega) (by omega)
    have hc : capp acc v = acc ++ [v] := by unfold capp; simp at h; rw [if_pos (by omega)]
    simp only [encL]
    rw [e] at hv ⊢
    rw [List.cons_append] at hv ⊢
    rw [lstD, hv]
    simp only
    rw [ih, hc]; simp

theorem decD_ok {s : List UInt8} {l : List Vl} (h : decD s = .ok l) : encL l = s ∧ okL l ∧ l.length ≤ 64 := by
  obtain ⟨m, h1, h2, h3, h4⟩ := lstD_ok _ _ _ _ h
  simp at h3
  subst h3
  exact ⟨h1.symm, h2, h4⟩
theorem decD_enc {l : List Vl} (h : okL l) (hl : l.length ≤ 64) : decD (encL l) = .ok l := by
  have := lstD_enc l (encL l).length [] h (by simpa using hl) (Nat.le_refl _)
  unfold decD
  simpa using this

/-- Errors have numbers other than 0. -/
theorem numD_err {a : Int} {k : Nat} {r : List UInt8} {e : Int} (h : numD a k r = .error e) : e ≠ 0 := by
  unfold numD at h
  split at h
  · injection h with h; omega
  · split at h
    · injection h with h; omega
    · cases h
theorem txtD_err : ∀ (r acc : List UInt8) (e : Int), txtD acc r = .error e → e ≠ 0
  | [], acc, e, h => by rw [txtD_nil] at h; injection h with h; omega
  | c :: r, acc, e, h => by
    rw [txtD_cons] at h
    split at h
    · split at h
      · injection h with h; omega
      · cases h
    · split at h
      · cases r with
        | nil => injection h with h; omega
        | cons d R =>
          simp only at h
          split at h
          · exact txtD_err R _ e h
          · split at h
            · exact txtD_err R _ e h
            · injection h with h; omega
      · exact txtD_err r _ e h
termination_by r => r.length
theorem valD_err {r : List UInt8} {e : Int} (h : valD r = .error e) : e ≠ 0 := by
  cases r with
  | nil => injection h with h; omega
  | cons f r =>
    rw [valD] at h
    split at h
    · cases h
    · split at h
      · split at h
        · rename_i e' hn; injection h with h; subst h; exact numD_err hn
        · cases h
      · split at h
        · split at h
          · rename_i e' hn; injection h with h; subst h; exact numD_err hn
          · cases h
        · split at h
          · cases h
          · split at h
            · split at h
              · rename_i e' hn; injection h with h; subst h; exact txtD_err _ _ _ hn
              · cases h
            · injection h with h; omega
theorem lstD_err : ∀ (f : Nat) (acc : List Vl) (r : List UInt8) (e : Int), lstD f acc r = .error e → e ≠ 0
  | f, acc, [], e, h => by
    rw [lstD] at h
    unfold fin at h
    split at h
    · injection h with h; omega
    · cases h
  | 0, acc, c :: r, e, h => by rw [lstD] at h; injection h with h; omega
  | f + 1, acc, c :: r, e, h => by
    rw [lstD] at h
    split at h
    · rename_i e' hv; injection h with h; subst h; exact valD_err hv
    · exact lstD_err f _ _ e h

end Go.Proofs.Ytapichngakcpeaa
