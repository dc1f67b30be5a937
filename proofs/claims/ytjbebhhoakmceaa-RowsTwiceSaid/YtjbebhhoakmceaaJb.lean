/- Rows by their keys: plain mathematics on lists: where a key stands in a list that is ordered, rows put in, rows taken out. Conditions: none. -/
import Derived.Test.YtjbebhhoakmceaaJa
namespace Go.Proofs.Ytjbebhhoakmceaa
open Go.RowKit
set_option linter.unusedSimpArgs false
set_option linter.unusedVariables false

def keyAt (kk : Nat) (r : List Vl) : Vl := r.getD kk zeroV
/-- The order of two rows' keys. -/
def ordR (kk : Nat) (a b : List Vl) : Int := ordL (keyAt kk a) (keyAt kk b)
def bef (kk : Nat) (k : Vl) (r : List Vl) : Bool := decide (ordL (keyAt kk r) k < 0)
def isK (kk : Nat) (k : Vl) (r : List Vl) : Bool := decide (ordL (keyAt kk r) k = 0)
/-- Where a key stands, or would stand. -/
def pos (kk : Nat) (l : List (List Vl)) (k : Vl) : Nat := (l.takeWhile (bef kk k)).length
/-- Whether a key is there. -/
def isAt (kk : Nat) (l : List (List Vl)) (k : Vl) : Bool := match l[pos kk l k]? with
  | some r => isK kk k r
  | none => false
def Srt (kk : Nat) (l : List (List Vl)) : Prop := l.Pairwise fun a b => ordR kk a b < 0
instance (kk : Nat) (l : List (List Vl)) : Decidable (Srt kk l) := by unfold Srt; infer_instance
def insAt (l : List (List Vl)) (i : Nat) (r : List Vl) : List (List Vl) := l.take i ++ r :: l.drop i

theorem ordL_le_trans {a b c : Vl} (h1 : ordL a b ≤ 0) (h2 : ordL b c ≤ 0) : ordL a c ≤ 0 ∧ ((ordL a b < 0 ∨ ordL b c < 0) ↔ ordL a c < 0) := ordV_trans2 _ _ _ _ _ _ _ _ _ h1 h2
theorem ordL_zero_sym {a b : Vl} (h : ordL a b = 0) : ordL b a = 0 := by have := ordL_neg a b; omega

theorem takeWhile_len {α : Type} (p : α → Bool) : ∀ (l : List α) (i : Nat), i ≤ l.length → (∀ j (h : j < l.length), j < i → p l[j] = true) → (∀ h : i < l.length, p l[i] = false) → (l.takeWhile p).length = i
  | [], i, hi, _, _ => by simp at hi; simp [hi]
  | a :: l, 0, _, _, h2 => by
    have := h2 (by simp)
    simp at this
    simp [List.takeWhile_cons, this]
  | a :: l, i + 1, hi, h1, h2 => by
    have h0 := h1 0 (by simp) (by omega)
    simp at h0
    rw [List.takeWhile_cons, if_pos h0, List.length_cons]
    congr 1
    exact takeWhile_len p l i (by simpa using hi) (fun j h hj => by have := h1 (j + 1) (by simpa using h) (by omega); simpa using this) (fun h => by have := h2 (by simpa using h); simpa using this)
theorem takeWhile_pre {α : Type} (p : α → Bool) : ∀ (l : List α), l.take (l.takeWhile p).length = l.takeWhile p
  | [] => rfl
  | a :: l => by
    rw [List.takeWhile_cons]
    split
    · simp [takeWhile_pre p l]
    · rfl
theorem takeWhile_suf {α : Type} (p : α → Bool) : ∀ (l : List α), l.drop (l.takeWhile p).length = l.dropWhile p
  | [] => rfl
  | a :: l => by
    rw [List.takeWhile_cons, List.dropWhile_cons]
    split
    · simp [takeWhile_suf p l]
    · rfl
theorem pos_le (kk : Nat) (l : List (List Vl)) (k : Vl) : pos kk l k ≤ l.length := (List.takeWhile_prefix (bef kk k)).length_le
theorem Srt.get {kk : Nat} {l : List (List Vl)} (h : Srt kk l) {i j : Nat} (hij : i < j) (hj : j < l.length) : ordR kk (l[i]'(by omega)) l[j] < 0 := List.pairwise_iff_getElem.1 h i j (by omega) hj hij
/-- Where the search by halves ends, the key stands. -/
theorem pos_of {kk : Nat} {l : List (List Vl)} (h : Srt kk l) {k : Vl} {i : Nat} (hi : i ≤ l.length) (h1 : ∀ h : 0 < i, bef kk k (l[i - 1]'(by omega)) = true) (h2 : ∀ h : i < l.length, bef kk k l[i] = false) : pos kk l k = i := by
  refine takeWhile_len _ l i hi (fun j hj hji => ?_) h2
  have h3 := h1 (by omega)
  by_cases e : j = i - 1
  · subst e; exact h3
  · have h4 := h.get (i := j) (j := i - 1) (by omega) (by omega)
    unfold bef at h3 ⊢
    have h3' := of_decide_eq_true h3
    exact decide_eq_true (ordL_lt h4 h3')
theorem bef_pos {kk : Nat} {l : List (List Vl)} {k : Vl} {j : Nat} (hj : j < pos kk l k) : bef kk k (l[j]'(by have := pos_le kk l k; omega)) = true := by
  have h1 : (l.takeWhile (bef kk k))[j]'hj ∈ l.takeWhile (bef kk k) := List.getElem_mem _
  have h2 : ∀ x ∈ l.takeWhile (bef kk k), bef kk k x = true := fun x hx => by
    have := List.all_takeWhile (p := bef kk k) (l := l)
    exact List.all_eq_true.1 this x hx
  have h3 := h2 _ h1
  have e : (l.takeWhile (bef kk k))[j]'hj = l[j]'(by have := pos_le kk l k; omega) := by
    have := takeWhile_pre (bef kk k) l
    have h4 := congrArg (fun x => x[j]?) this
    simp only [List.getElem?_take] at h4
    have hj' : j < (l.takeWhile (bef kk k)).length := hj
    rw [if_pos hj', List.getElem?_eq_getElem (by have := pos_le kk l k; omega), List.getElem?_eq_getElem hj'] at h4
    injection h4 with h4
    exact h4.symm
  rw [← e]; exact h3
theorem not_bef_pos {kk : Nat} {l : List (List Vl)} {k : Vl} (hj : pos kk l k < l.length) : bef kk k l[pos kk l k] = false := by
  have h1 := takeWhile_suf (bef kk k) l
  have h2 := congrArg (fun x => x[0]?) h1
  simp only [List.getElem?_drop, Nat.add_zero] at h2
  have hj' : (l.takeWhile (bef kk k)).length < l.length := hj
  rw [List.getElem?_eq_getElem hj'] at h2
  cases hd : l.dropWhile (bef kk k) with
  | nil => rw [hd] at h2; cases h2
  | cons x m =>
    rw [hd] at h2
    simp at h2
    have h3 : bef kk k x = false := by
      have h4 := List.head?_dropWhile_not (p := bef kk k) (l := l)
      rw [hd] at h4
      simpa using h4
    exact (congrArg (bef kk k) h2).trans h3
/-- A row of that key is where the key stands. -/
theorem at_of_mem {kk : Nat} {l : List (List Vl)} (h : Srt kk l) {k : Vl} {x : List Vl} (hx : x ∈ l) (hk : ordL (keyAt kk x) k = 0) : isAt kk l k = true ∧ l[pos kk l k]? = some x := by
  obtain ⟨j, hj, rfl⟩ := List.mem_iff_getElem.1 hx
  have e : pos kk l k = j := pos_of h (by omega) (fun h0 => by
    have h4 := h.get (i := j - 1) (j := j) (by omega) hj
    exact decide_eq_true ((ordL_le_trans (Int.le_of_lt h4) (Int.le_of_eq hk)).2.1 (.inl h4))) (fun _ => decide_eq_false (by omega))
  refine ⟨?_, by rw [e, List.getElem?_eq_getElem hj]⟩
  unfold isAt
  rw [e, List.getElem?_eq_getElem hj]
  exact decide_eq_true hk
theorem not_at {kk : Nat} {l : List (List Vl)} (h : Srt kk l) {k : Vl} (hk : isAt kk l k = false) : ∀ x ∈ l, ordL (keyAt kk x) k ≠ 0 := fun x hx e => by
  rw [(at_of_mem h hx e).1] at hk; cases hk
theorem at_mem {kk : Nat} {l : List (List Vl)} {k : Vl} (hk : isAt kk l k = true) : ∃ h : pos kk l k < l.length, ordL (keyAt kk l[pos kk l k]) k = 0 := by
  unfold isAt at hk
  split at hk
  · rename_i r hr
    obtain ⟨h1, h2⟩ := List.getElem?_eq_some_iff.1 hr
    exact ⟨h1, by rw [h2]; exact of_decide_eq_true hk⟩
  · cases hk
theorem insAt_srt {kk : Nat} {l : List (List Vl)} (h : Srt kk l) {r : List Vl} (hk : isAt kk l (keyAt kk r) = false) : Srt kk (insAt l (pos kk l (keyAt kk r)) r) := by
  have hn := not_at h hk
  unfold insAt Srt
  rw [List.pairwise_append, List.pairwise_cons]
  have e1 := takeWhile_pre (bef kk (keyAt kk r)) l
  have h1 : ∀ a ∈ l.take (pos kk l (keyAt kk r)), ordR kk a r < 0 := fun a ha => by
    have ha' : a ∈ l.takeWhile (bef kk (keyAt kk r)) := by
      have e1' : l.take (pos kk l (keyAt kk r)) = l.takeWhile (bef kk (keyAt kk r)) := e1
      rwa [e1'] at ha
    exact of_decide_eq_true (List.all_eq_true.1 List.all_takeWhile a ha')
  have h2 : ∀ b ∈ l.drop (pos kk l (keyAt kk r)), ordR kk r b < 0 := fun b hb => by
    obtain ⟨j, hj, rfl⟩ := List.mem_iff_getElem.1 hb
    simp at hj
    rw [List.getElem_drop]
    have h3 := not_bef_pos (kk := kk) (l := l) (k := keyAt kk r) (by omega)
    have h4 : ¬ ordL (keyAt kk l[pos kk l (keyAt kk r)]) (keyAt kk r) < 0 := of_decide_eq_false h3
    have h5 := hn _ (List.getElem_mem (l := l) (n := pos kk l (keyAt kk r)) (by omega))
    have h6 := ordL_neg (keyAt kk l[pos kk l (keyAt kk r)]) (keyAt kk r)
    have h7 : ordR kk r l[pos kk l (keyAt kk r)] < 0 := by unfold ordR; omega
    by_cases hj0 : j = 0
    · subst hj0; exact h7
    · exact ordL_lt h7 (h.get (i := pos kk l (keyAt kk r)) (j := pos kk l (keyAt kk r) + j) (by omega) (by omega))
  refine ⟨h.sublist (List.take_sublist _ _), ⟨h2, h.sublist (List.drop_sublist _ _)⟩, fun a ha b hb => ?_⟩
  rcases List.mem_cons.1 hb with rfl | hb
  · exact h1 a ha
  · exact ordL_lt (h1 a ha) (h2 b hb)
theorem mem_insAt {l : List (List Vl)} {i : Nat} {r x : List Vl} : x ∈ insAt l i r ↔ x = r ∨ x ∈ l := by
  unfold insAt
  conv => rhs; rw [← List.take_append_drop i l]
  simp only [List.mem_append, List.mem_cons]
  grind
theorem insAt_len {l : List (List Vl)} {i : Nat} {r : List Vl} : (insAt l i r).length = l.length + 1 := by
  unfold insAt
  have := congrArg List.length (List.take_append_drop i l)
  simp only [List.length_append, List.length_cons] at this ⊢
  omega
def notK (kk : Nat) (k : Vl) (r : List Vl) : Bool := !isK kk k r
theorem filter_insAt {kk : Nat} {l : List (List Vl)} {i : Nat} {r : List Vl} (h : ∀ x ∈ l, ordL (keyAt kk x) (keyAt kk r) ≠ 0) : (insAt l i r).filter (notK kk (keyAt kk r)) = l := by
  have h1 : ∀ x ∈ l, notK kk (keyAt kk r) x = true := fun x hx => by simp [notK, isK, h x hx]
  have h2 : notK kk (keyAt kk r) r = false := by simp [notK, isK, ordL_self]
  unfold insAt
  rw [List.filter_append, List.filter_cons, if_neg (by simp [h2]), ← List.filter_append, List.take_append_drop]
  exact List.filter_eq_self.2 h1
theorem erase_filter {kk : Nat} {l : List (List Vl)} (h : Srt kk l) {k : Vl} (hk : isAt kk l k = true) : l.eraseIdx (pos kk l k) = l.filter (notK kk k) := by
  obtain ⟨hp, h0⟩ := at_mem hk
  rw [List.eraseIdx_eq_take_drop_succ]
  conv => rhs; rw [← List.take_append_drop (pos kk l k) l, List.drop_eq_getElem_cons hp]
  rw [List.filter_append, List.filter_cons, if_neg (by simp [notK, isK, h0])]
  congr 1
  · refine (List.filter_eq_self.2 fun x hx => ?_).symm
    obtain ⟨j, hj, rfl⟩ := List.mem_iff_getElem.1 hx
    simp at hj
    rw [List.getElem_take]
    have h4 := h.get (i := j) (j := pos kk l k) (by omega) hp
    have h5 := (ordL_le_trans (Int.le_of_lt h4) (Int.le_of_eq h0)).2.1 (.inl h4)
    simp [notK, isK]; omega
  · refine (List.filter_eq_self.2 fun x hx => ?_).symm
    obtain ⟨j, hj, rfl⟩ := List.mem_iff_getElem.1 hx
    simp at hj
    rw [List.getElem_drop]
    have h4 := h.get (i := pos kk l k) (j := pos kk l k + 1 + j) (by omega) (by omega)
    have h5 := (ordL_le_trans (Int.le_of_eq (ordL_zero_sym h0)) (Int.le_of_lt h4)).2.1 (.inr h4)
    have h6 := ordL_neg k (keyAt kk l[pos kk l k + 1 + j])
    simp [notK, isK]; omega

/-- Rows put in, one after another: the error, the list. -/
def insF (f : List Vl → Int) (kk : Nat) : List (List Vl) → List (List Vl) → Int × List (List Vl)
  | l, [] => (0, l)
  | l, r :: rs => if f r ≠ 0 then (f r, l) else if isAt kk l (keyAt kk r) = true then (87, l) else if l.length = 256 then (51, l) else insF f kk (insAt l (pos kk l (keyAt kk r)) r) rs
/-- Rows taken out, by their keys. -/
def delF (kk : Nat) : List (List Vl) → List Vl → Int × List (List Vl)
  | l, [] => (0, l)
  | l, k :: ks => if isAt kk l k = true then delF kk (l.eraseIdx (pos kk l k)) ks else (71, l)
def notIn (kk : Nat) (ks : List Vl) (r : List Vl) : Bool := ks.all fun k => notK kk k r
structure InsOk (f : List Vl → Int) (kk : Nat) (l rs a : List (List Vl)) : Prop where
  srt : Srt kk a
  len : a.length = l.length + rs.length
  mem : ∀ x, x ∈ a ↔ x ∈ l ∨ x ∈ rs
  fit : ∀ r ∈ rs, f r = 0
  apart : ∀ r ∈ rs, ∀ x ∈ l, ordL (keyAt kk x) (keyAt kk r) ≠ 0
  pair : rs.Pairwise fun a b => ordR kk a b ≠ 0
  back : a.filter (notIn kk (rs.map (keyAt kk))) = l
  few : l.length ≤ 256 → a.length ≤ 256
theorem insF_ok (f : List Vl → Int) (kk : Nat) : ∀ (rs l a : List (List Vl)), Srt kk l → insF f kk l rs = (0, a) → InsOk f kk l rs a
  | [], l, a, hs, h => by
    have h' : (0, l) = ((0 : Int), a) := h
    injection h' with _ h'
    subst h'
    exact ⟨hs, by simp, by simp, by simp, by simp, List.Pairwise.nil, List.filter_eq_self.2 (fun x _ => by simp [notIn]), fun h => h⟩
  | r :: rs, l, a, hs, h => by
    rw [insF] at h
    split at h
    · rename_i h0
      injection h with h1 _
      exact absurd h1 h0
    rename_i h0
    split at h
    · injection h with h1 _
      exact absurd h1 (by decide)
    rename_i h1
    split at h
    · injection h with h2 _
      exact absurd h2 (by decide)
    rename_i h2
    have h1' : isAt kk l (keyAt kk r) = false := by simpa using h1
    have hn := not_at hs h1'
    have ih := insF_ok f kk rs _ a (insAt_srt hs h1') h
    refine ⟨ih.srt, by rw [ih.len, insAt_len, List.length_cons]; omega, fun x => ?_, fun x hx => ?_, fun x hx y hy => ?_, ?_, ?_, fun h3 => ih.few (by rw [insAt_len]; omega)⟩
    · rw [ih.mem, mem_insAt, List.mem_cons]
      grind
    · rcases List.mem_cons.1 hx with rfl | hx
      · simpa using h0
      · exact ih.fit x hx
    · rcases List.mem_cons.1 hx with rfl | hx
      · exact hn y hy
      · exact ih.apart x hx y (mem_insAt.2 (.inr hy))
    · exact List.pairwise_cons.2 ⟨fun x hx => ih.apart x hx r (mem_insAt.2 (.inl rfl)), ih.pair⟩
    · have e : a.filter (notIn kk ((r :: rs).map (keyAt kk))) = (a.filter (notIn kk (rs.map (keyAt kk)))).filter (notK kk (keyAt kk r)) := by
        rw [List.filter_filter]
        congr 1
      rw [e, ih.back]
      exact filter_insAt hn
theorem delF_ok (kk : Nat) : ∀ (ks : List Vl) (l : List (List Vl)), Srt kk l → (∀ k ∈ ks, ∃ x ∈ l, ordL (keyAt kk x) k = 0) → (ks.Pairwise fun a b => ordL a b ≠ 0) → delF kk l ks = (0, l.filter (notIn kk ks))
  | [], l, _, _, _ => by rw [delF, List.filter_eq_self.2 (fun x _ => by simp [notIn])]
  | k :: ks, l, hs, hk, hp => by
    obtain ⟨x, hx, h0⟩ := hk k List.mem_cons_self
    have ha := (at_of_mem hs hx h0).1
    rw [delF, if_pos ha, erase_filter hs ha]
    obtain ⟨hp1, hp2⟩ := List.pairwise_cons.1 hp
    rw [delF_ok kk ks _ (hs.sublist List.filter_sublist) (fun j hj => ?_) hp2, List.filter_filter]
    · congr 2
      funext y
      simp [notIn, Bool.and_comm]
    · obtain ⟨y, hy, h1⟩ := hk j (List.mem_cons_of_mem _ hj)
      refine ⟨y, List.mem_filter.2 ⟨hy, ?_⟩, h1⟩
      have h2 := hp1 j hj
      simp only [notK, isK, Bool.not_eq_true', decide_eq_false_iff_not]
      intro h3
      have h4 := ordL_le_trans (Int.le_of_eq (ordL_zero_sym h3)) (Int.le_of_eq h1)
      have h5 := ordL_zero_sym h3
      omega
/-- What is put in and taken out again. -/
theorem delF_back {f : List Vl → Int} {kk : Nat} {l rs a : List (List Vl)} (h : InsOk f kk l rs a) : delF kk a (rs.map (keyAt kk)) = (0, l) := by
  have h1 : ∀ k ∈ rs.map (keyAt kk), ∃ x ∈ a, ordL (keyAt kk x) k = 0 := fun k hk => by
    obtain ⟨r, hr, rfl⟩ := List.mem_map.1 hk
    exact ⟨r, (h.mem r).2 (.inr hr), ordL_self _⟩
  have h2 : (rs.map (keyAt kk)).Pairwise fun a b => ordL a b ≠ 0 := List.pairwise_map.2 h.pair
  rw [delF_ok kk _ a h.srt h1 h2, h.back]
theorem delF_srt (kk : Nat) : ∀ (ks : List Vl) (l : List (List Vl)), Srt kk l → Srt kk (delF kk l ks).2
  | [], l, h => h
  | k :: ks, l, h => by
    rw [delF]
    split
    · exact delF_srt kk ks _ (h.sublist (List.eraseIdx_sublist _ _))
    · exact h

/-- The first error of a list's. -/
def firstE {α : Type} (f : α → Int) : List α → Int
  | [] => 0
  | r :: l => if f r ≠ 0 then f r else firstE f l
theorem firstE_zero {α : Type} {f : α → Int} : ∀ {l : List α}, firstE f l = 0 ↔ ∀ r ∈ l, f r = 0
  | [] => by simp [firstE]
  | r :: l => by
    rw [firstE]
    split
    · rename_i h
      exact ⟨fun h' => absurd h' h, fun h' => h' r List.mem_cons_self⟩
    · rename_i h
      rw [firstE_zero, List.forall_mem_cons]
      have h0 : f r = 0 := by simpa using h
      exact ⟨fun h' => ⟨h0, h'⟩, fun h' => h'.2⟩
theorem firstE_at {α : Type} {f : α → Int} : ∀ {l : List α} {j : Nat} (hj : j < l.length), (∀ r ∈ l.take j, f r = 0) → f l[j] ≠ 0 → firstE f l = f l[j]
  | [], j, hj, _, _ => by simp at hj
  | r :: l, 0, _, _, h => by
    simp at h
    simp [firstE, h]
  | r :: l, j + 1, hj, h1, h2 => by
    have h0 : f r = 0 := h1 r (by simp)
    rw [firstE, if_neg (by simp [h0])]
    simp at h2 ⊢
    exact firstE_at (by simpa using hj) (fun x hx => h1 x (by simp [hx])) h2
theorem srt_of {kk : Nat} : ∀ {l : List (List Vl)}, (∀ i (h : i + 1 < l.length), ordR kk (l[i]'(by omega)) l[i + 1] < 0) → Srt kk l
  | [], _ => List.Pairwise.nil
  | [a], _ => List.pairwise_singleton _ _
  | a :: b :: l, h => by
    have ih : Srt kk (b :: l) := srt_of fun i hi => by
      have := h (i + 1) (by simpa using hi)
      simpa using this
    have h0 : ordR kk a b < 0 := by have := h 0 (by simp); simpa using this
    refine List.pairwise_cons.2 ⟨fun x hx => ?_, ih⟩
    rcases List.mem_cons.1 hx with rfl | hx
    · exact h0
    · exact ordL_lt h0 ((List.pairwise_cons.1 ih).1 x hx)
end Go.Proofs.Ytjbebhhoakmceaa
