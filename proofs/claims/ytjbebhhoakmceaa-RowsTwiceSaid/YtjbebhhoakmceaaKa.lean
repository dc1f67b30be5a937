/- What follows of rows that were put in: plain mathematics. Conditions: none. -/
import Derived.Test.YtjbebhhoakmceaaJx
namespace Go.Proofs.Ytjbebhhoakmceaa
open Go.RowKit Go.Sort
set_option linter.unusedSimpArgs false
set_option linter.unusedVariables false

theorem insR_bad {t : Tb} {l : List (List Vl)} (h : chkF t l ≠ 0) (more : List (List Vl)) : insR t l more = (chkF t l, []) := by
  unfold insR trnF
  rw [if_pos h]
theorem insR_good {t : Tb} {l : List (List Vl)} (h : chkF t l = 0) (more : List (List Vl)) : insR t l more = insF (fitR t.cols) t.key.toNat l more := by
  unfold insR trnF
  rw [if_neg (by simp [h])]
theorem delR_good {t : Tb} {l : List (List Vl)} (h : chkF t l = 0) (ks : List Vl) : delR t l ks = delF t.key.toNat l ks := by
  unfold delR trnF
  rw [if_neg (by simp [h])]
/-- All that is so of rows that were put in. -/
structure Put (t : Tb) (l more a : List (List Vl)) (kk : Nat) : Prop where
  key : t.key = kk
  was : chkF t l = 0
  is : chkF t a = 0
  few : a.length ≤ 256
  len : a.length = l.length + more.length
  fit : ∀ r ∈ more, fitR t.cols r = 0
  long : ∀ r ∈ more, kk < r.length
  there : ∀ r ∈ more, isAt kk a (keyAt kk r) = true ∧ a[pos kk a (keyAt kk r)]? = some r
  back : delR t a (more.map (keyAt kk)) = (0, l)
theorem ordL_refl (v : Vl) : ordL v v = 0 := by have := ordL_neg v v; omega
theorem put_of {t : Tb} {l more : List (List Vl)} (h : (insR t l more).1 = 0) : ∃ kk, Put t l more (insR t l more).2 kk := by
  have h0 : chkF t l = 0 := by
    by_cases h1 : chkF t l = 0
    · exact h1
    · rw [insR_bad h1] at h
      exact absurd h h1
  obtain ⟨h256, hT, hfit, hs⟩ := chkF_zero h0
  obtain ⟨k1, k2, kk, hk, hkk⟩ := tblB_key hT
  have he := insR_good h0 more
  rw [he] at h ⊢
  have hkn : t.key.toNat = kk := by rw [hk]; exact Int.toNat_natCast kk
  rw [hkn] at h hs ⊢
  have hz : insF (fitR t.cols) kk l more = (0, (insF (fitR t.cols) kk l more).2) := by rw [← h]
  have hI := insF_ok _ _ _ _ _ hs hz
  generalize (insF (fitR t.cols) kk l more).2 = a at hI ⊢
  have hfa : ∀ r ∈ a, fitR t.cols r = 0 := fun r hr => by
    rcases (hI.mem r).1 hr with h1 | h1
    · exact hfit r h1
    · exact hI.fit r h1
  have hca : chkF t a = 0 := chkF_ok (hI.few h256) hT hfa (by rw [hkn]; exact hI.srt)
  refine ⟨kk, hk, h0, hca, hI.few h256, hI.len, hI.fit, fun r hr => by rw [fitR_len (hI.fit r hr)]; exact hkk, fun r hr => at_of_mem hI.srt ((hI.mem r).2 (.inr hr)) (ordL_refl _), ?_⟩
  rw [delR_good hca, hkn]
  exact delF_back hI
theorem insF_one (f : List Vl → Int) (kk : Nat) (l : List (List Vl)) (r : List Vl) : insF f kk l [r] = if f r ≠ 0 then (f r, l) else if isAt kk l (keyAt kk r) = true then (87, l) else if l.length = 256 then (51, l) else (0, insAt l (pos kk l (keyAt kk r)) r) := by
  rw [insF, insF]
theorem insF_two (f : List Vl → Int) (kk : Nat) (l : List (List Vl)) (r : List Vl) : insF f kk l [r, r] = if f r ≠ 0 then (f r, l) else if isAt kk l (keyAt kk r) = true then (87, l) else if l.length = 256 then (51, l) else insF f kk (insAt l (pos kk l (keyAt kk r)) r) [r] := by
  rw [insF]
theorem twice_bad {t : Tb} {l : List (List Vl)} {r : List Vl} (h : (insR t l [r]).1 ≠ 0) : (insR t l [r, r]).1 = (insR t l [r]).1 := by
  by_cases h0 : chkF t l = 0
  · rw [insR_good h0] at h ⊢
    rw [insR_good h0]
    rw [insF_one] at h ⊢
    rw [insF_two]
    by_cases h1 : fitR t.cols r ≠ 0
    · rw [if_pos h1, if_pos h1]
    · rw [if_neg h1, if_neg h1]
      rw [if_neg h1] at h
      by_cases h2 : isAt t.key.toNat l (keyAt t.key.toNat r) = true
      · rw [if_pos h2, if_pos h2]
      · rw [if_neg h2, if_neg h2]
        rw [if_neg h2] at h
        by_cases h3 : l.length = 256
        · rw [if_pos h3, if_pos h3]
        · rw [if_neg h3] at h
          exact absurd rfl h
  · rw [insR_bad h0, insR_bad h0]
theorem twice_next {t : Tb} {l : List (List Vl)} {r : List Vl} (h : (insR t l [r]).1 = 0) : (insR t (insR t l [r]).2 [r]).1 = 87 := by
  obtain ⟨kk, hp⟩ := put_of h
  have hkn : t.key.toNat = kk := by rw [hp.key]; exact Int.toNat_natCast kk
  rw [insR_good hp.is, hkn, insF_one, if_neg (by simp [hp.fit r (by simp)]), if_pos (hp.there r (by simp)).1]
theorem twice_ok {t : Tb} {l : List (List Vl)} {r : List Vl} (h : (insR t l [r]).1 = 0) : (insR t l [r, r]).1 = 87 := by
  have hn := twice_next h
  obtain ⟨kk, hp⟩ := put_of h
  rw [insR_good hp.is] at hn
  have e := insR_good hp.was [r]
  rw [e] at h hn
  rw [insR_good hp.was]
  rw [insF_one] at h
  rw [insF_two]
  by_cases h1 : fitR t.cols r ≠ 0
  · rw [if_pos h1] at h
    exact absurd h h1
  · rw [if_neg h1] at h ⊢
    by_cases h2 : isAt t.key.toNat l (keyAt t.key.toNat r) = true
    · rw [if_pos h2]
    · rw [if_neg h2] at h ⊢
      by_cases h3 : l.length = 256
      · rw [if_pos h3] at h
        exact absurd h (by simp)
      · rw [if_neg h3]
        have e2 : (insF (fitR t.cols) t.key.toNat l [r]).2 = insAt l (pos t.key.toNat l (keyAt t.key.toNat r)) r := by
          rw [insF_one, if_neg h1, if_neg h2, if_neg h3]
        rw [e2] at hn
        exact hn
theorem new_Rw1 (W : World) (T : TypeId) (v : Value) (r : List Vl) (g : Nat) (hg : g = W.heap.size) (h : Rw W v r) : RdR (W.alloc (.cells #[v] T)) (some ⟨g, 0, none⟩) [r] := fun _ => ⟨_, rfl, fun j x hj => by
  subst hg
  match j, hj with
  | 0, hj =>
    simp at hj; subst hj
    exact ⟨v, by rw [add_lit, cell_last _ _ _ _ _ rfl]; rfl, h.below (below1 _ _)⟩
  | j + 1, hj => simp at hj⟩
theorem new_Rw2 (W : World) (T : TypeId) (v : Value) (r : List Vl) (g : Nat) (hg : g = W.heap.size) (h : Rw W v r) : RdR (W.alloc (.cells #[v, v] T)) (some ⟨g, 0, none⟩) [r, r] := fun _ => ⟨_, rfl, fun j x hj => by
  subst hg
  match j, hj with
  | 0, hj =>
    simp at hj; subst hj
    exact ⟨v, by rw [add_lit, cell_last _ _ _ _ _ rfl]; rfl, h.below (below1 _ _)⟩
  | 1, hj =>
    simp at hj; subst hj
    exact ⟨v, by rw [add_lit, cell_last _ _ _ _ _ rfl]; rfl, h.below (below1 _ _)⟩
  | j + 2, hj => simp at hj⟩
end Go.Proofs.Ytjbebhhoakmceaa
