/- What follows of what the calls make of a state: it may be; no committed one has both flags; who is to be given up is active, each once. Conditions: none. -/
import Derived.Test.YtlcmpngjmmbkcaaVm
namespace Go.Proofs.Ytlcmpngjmmbkcaa
set_option linter.unusedSimpArgs false
set_option linter.unusedVariables false

/-- No committed one has both flags. -/
def NB (l : List Tx) : Prop := ∀ t ∈ l, 0 < t.e → (t.a && t.o) = false
theorem NB.set {l : List Tx} (h : NB l) (p : Nat) (u : Tx) (hu : 0 < u.e → (u.a && u.o) = false) : NB (l.set p u) := fun t ht h0 => by
  rcases List.mem_or_eq_of_mem_set ht with k | rfl
  · exact h t k h0
  · exact hu h0
theorem NB.sub {l m : List Tx} (h : NB l) (hm : m.Sublist l) : NB m := fun t ht => h t (hm.subset ht)
/-- Those are active. -/
def Act (m : List Tx) (M : List Int) : Prop := ∀ i ∈ M, ∃ t ∈ m, t.i = i ∧ t.e = 0
theorem Act.kept {m m' : List Tx} {M : List Int} (h : Act m M) (k : Kept m m') : Act m' M := fun i hi => by
  obtain ⟨t, ht, e1, e2⟩ := h i hi
  obtain ⟨j, hj, rfl⟩ := List.mem_iff_getElem.1 ht
  obtain ⟨u, hu, g1, _, g3⟩ := k.all j _ (List.getElem?_eq_getElem hj)
  exact ⟨u, List.mem_of_getElem? hu, g1.trans e1, g3.trans e2⟩
theorem rnd_more {f : Tx → Tx} (hf : ∀ x, (f x).i = x.i ∧ (f x).s = x.s ∧ (f x).e = x.e) {p q : Nat} {m : List Tx} {M : List Int} {x y : Tx} (hx : m[p]? = some x) (hy : m[q]? = some y) (hx0 : 0 ≤ x.e) (hn : NB m) (hM : Act m M) : NB (rnd f p q (m, M)).1 ∧ Act (rnd f p q (m, M)).1 (rnd f p q (m, M)).2 := by
  have hk := (rnd_kept (M := M) hf hx hy).1
  cases h : ((f x).a && (f x).o)
  · rw [rnd_no hx hy h] at hk ⊢
    exact ⟨hn.set p _ fun _ => h, hM.kept hk⟩
  · by_cases h0 : 0 < x.e
    · by_cases h1 : y.e = 0
      · rw [rnd_yes hx hy h h0 h1]
        refine ⟨hn, fun i hi => ?_⟩
        rcases List.mem_cons.1 hi with rfl | k
        · exact ⟨y, List.mem_of_getElem? hy, rfl, h1⟩
        · exact hM i k
      · rw [rnd_none hx hy h h0 h1]
        exact ⟨hn, hM⟩
    · rw [rnd_act hx hy h h0] at hk ⊢
      refine ⟨hn.set p _ fun h2 => absurd (by rw [← (hf x).2.2]; exact h2) h0, fun i hi => ?_⟩
      rcases List.mem_cons.1 hi with rfl | k
      · have hp := (List.getElem?_eq_some_iff.1 hx).1
        exact ⟨f x, List.mem_of_getElem? (List.getElem?_set_self hp), (hf x).1, by rw [(hf x).2.2]; omega⟩
      · exact hM.kept hk i k
theorem draR_more {l : List Tx} {P Q : Nat} {x y : Tx} (hx : l[P]? = some x) (hy : l[Q]? = some y) (hPQ : P ≠ Q) (hx0 : 0 ≤ x.e) (hy0 : 0 ≤ y.e) (hi : x.i ≠ y.i) (hn : NB l) : NB (draR l P Q x y).1 ∧ (draR l P Q x y).2.Nodup ∧ Act (draR l P Q x y).1 (draR l P Q x y).2 := by
  have h1 := rnd_more (M := []) fO_kept hx hy hx0 hn (fun i hi => by simp at hi)
  have hk1 := (rnd_kept (M := []) fO_kept hx hy).1
  have h2 := rnd_far (f := fO) (M := []) hx hy hPQ
  obtain ⟨x', hx', _⟩ := hk1.all P x hx
  have h3 := rnd_more (M := (rnd fO P Q (l, [])).2) fI_kept h2 hx' hy0 h1.1 h1.2
  refine ⟨h3.1, ?_, fun i hm => h3.2 i ?_⟩
  · show (idsOf x y _).Nodup
    unfold idsOf
    split <;> split <;> simp [hi]
  · have hm' : i ∈ idsOf x y (rnd fI Q P (rnd fO P Q (l, []))).2 := hm
    unfold idsOf at hm'
    rcases List.mem_append.1 hm' with k | k
    · split at k
      · rename_i hh; simp at k; subst k; exact hh
      · simp at k
    · split at k
      · rename_i hh; simp at k; subst k; exact hh
      · simp at k
theorem edg_ok {s : St} {r v : Int} (h : (edgR s r v).2.2 = 0) : Ok s ∧ Ok (edgR s r v).1 ∧ (NB s.l → NB (edgR s r v).1.l) ∧ (edgR s r v).2.1.Nodup ∧ (NB s.l → Act (edgR s r v).1.l (edgR s r v).2.1) := by
  by_cases hOk : Ok s
  · by_cases hp : plc r s.l < s.l.length ∧ plc v s.l < s.l.length
    · by_cases hs : r = v ∨ onceB (s.l[plc r s.l]'hp.1) (s.l[plc v s.l]'hp.2) = false
      · have e : edgR s r v = (s, [], 0) := by unfold edgR; rw [if_pos hOk, dif_pos hp, if_pos hs]
        rw [e]
        exact ⟨hOk, hOk, id, List.nodup_nil, fun _ i hi => by simp at hi⟩
      · have e : edgR s r v = (⟨(draR s.l (plc r s.l) (plc v s.l) (s.l[plc r s.l]'hp.1) (s.l[plc v s.l]'hp.2)).1, s.c, s.n⟩, (draR s.l (plc r s.l) (plc v s.l) (s.l[plc r s.l]'hp.1) (s.l[plc v s.l]'hp.2)).2, 0) := by
          unfold edgR; rw [if_pos hOk, dif_pos hp, if_neg hs]
        rw [e]
        have hne : r ≠ v := fun e => hs (.inl e)
        have ho : onceB (s.l[plc r s.l]'hp.1) (s.l[plc v s.l]'hp.2) = true := by
          cases hc : onceB (s.l[plc r s.l]'hp.1) (s.l[plc v s.l]'hp.2)
          · exact absurd (.inr hc) hs
          · rfl
        have h1 := plc_at hp.1
        have h2 := plc_at hp.2
        have hPQ : plc r s.l ≠ plc v s.l := fun e => by
          have h3 : s.l[plc r s.l]'hp.1 = s.l[plc v s.l]'hp.2 := by simp only [e]
          rw [h3, h2] at h1
          exact hne h1.symm
        have hm1 := mayB_iff.1 (hOk.may _ (List.getElem_mem hp.1))
        have hm2 := mayB_iff.1 (hOk.may _ (List.getElem_mem hp.2))
        have hx0 : 0 ≤ (s.l[plc r s.l]'hp.1).e := by
          have : (s.l[plc r s.l]'hp.1).e ≠ -1 := by simp [onceB] at ho; exact ho.1
          omega
        have hy0 : 0 ≤ (s.l[plc v s.l]'hp.2).e := by
          have : (s.l[plc v s.l]'hp.2).e ≠ -1 := by simp [onceB] at ho; exact ho.2.1
          omega
        have hx := List.getElem?_eq_getElem hp.1
        have hy := List.getElem?_eq_getElem hp.2
        have hi : (s.l[plc r s.l]'hp.1).i ≠ (s.l[plc v s.l]'hp.2).i := by rw [h1, h2]; exact hne
        have hnd : (draR s.l (plc r s.l) (plc v s.l) (s.l[plc r s.l]'hp.1) (s.l[plc v s.l]'hp.2)).2.Nodup := by
          show (idsOf _ _ _).Nodup
          unfold idsOf
          split <;> split <;> simp [hi]
        exact ⟨hOk, hOk.kept (draR_kept hx hy hPQ), fun hn => (draR_more hx hy hPQ hx0 hy0 hi hn).1, hnd, fun hn => (draR_more hx hy hPQ hx0 hy0 hi hn).2.2⟩
    · have e : edgR s r v = (zS, [], 71) := by unfold edgR; rw [if_pos hOk, dif_neg hp]
      rw [e] at h
      simp at h
  · have e : edgR s r v = (zS, [], 9) := if_neg hOk
    rw [e] at h
    simp at h
theorem com_ok {s : St} {i : Int} (h : (comR s i).2.2 = 0) : Ok s ∧ Ok (comR s i).1 ∧ (comR s i).2.1 = s.c + 1 ∧ (NB s.l → NB (comR s i).1.l) := by
  by_cases hOk : Ok s
  · by_cases hP : plc i s.l < s.l.length
    · by_cases h0 : s.l[plc i s.l].e ≠ 0
      · have e : comR s i = (zS, 0, 9) := by unfold comR; rw [if_pos hOk, dif_pos hP, if_pos h0]
        rw [e] at h; simp at h
      · by_cases hb : (s.l[plc i s.l].a && s.l[plc i s.l].o) = true
        · have e : comR s i = (zS, 0, 96) := by unfold comR; rw [if_pos hOk, dif_pos hP, if_neg h0, if_pos hb]
          rw [e] at h; simp at h
        · by_cases hc : s.c = 1099511627776
          · have e : comR s i = (zS, 0, 51) := by unfold comR; rw [if_pos hOk, dif_pos hP, if_neg h0, if_neg hb, if_pos hc]
            rw [e] at h; simp at h
          · have e : comR s i = (⟨s.l.set (plc i s.l) ⟨s.l[plc i s.l].i, s.l[plc i s.l].s, s.c + 1, s.l[plc i s.l].a, s.l[plc i s.l].o⟩, s.c + 1, s.n⟩, s.c + 1, 0) := by unfold comR; rw [if_pos hOk, dif_pos hP, if_neg h0, if_neg hb, if_neg hc]
            rw [e]
            have hc1 := hOk.c1
            exact ⟨hOk, hOk.com hP (by simpa using h0) (by omega), rfl, fun hn => hn.set _ _ fun _ => by simpa using hb⟩
    · have e : comR s i = (zS, 0, 71) := by unfold comR; rw [if_pos hOk, dif_neg hP]
      rw [e] at h; simp at h
  · have e : comR s i = (zS, 0, 9) := if_neg hOk
    rw [e] at h; simp at h
theorem abo_ok {s : St} {i : Int} (h : (aboR s i).2 = 0) : Ok s ∧ Ok (aboR s i).1 ∧ (NB s.l → NB (aboR s i).1.l) ∧ (∀ j, j ≠ i → (∃ t ∈ s.l, t.i = j ∧ t.e = 0) → ∃ t ∈ (aboR s i).1.l, t.i = j ∧ t.e = 0) := by
  by_cases hOk : Ok s
  · by_cases hP : plc i s.l < s.l.length
    · by_cases h0 : s.l[plc i s.l].e ≠ 0
      · have e : aboR s i = (zS, 9) := by unfold aboR; rw [if_pos hOk, dif_pos hP, if_pos h0]
        rw [e] at h; simp at h
      · have e : aboR s i = (⟨s.l.set (plc i s.l) ⟨s.l[plc i s.l].i, s.l[plc i s.l].s, -1, s.l[plc i s.l].a, s.l[plc i s.l].o⟩, s.c, s.n⟩, 0) := by unfold aboR; rw [if_pos hOk, dif_pos hP, if_neg h0]
        rw [e]
        refine ⟨hOk, hOk.abo hP, fun hn => hn.set _ _ fun h => absurd h (by show ¬ (0 : Int) < -1; decide), fun j hj ⟨t, ht, e1, e2⟩ => ?_⟩
        obtain ⟨k, hk, rfl⟩ := List.mem_iff_getElem.1 ht
        have hne : plc i s.l ≠ k := fun e => hj (by rw [← e1, ← plc_at hP]; simp only [e])
        exact ⟨s.l[k], List.mem_of_getElem? ((List.getElem?_set_ne hne).trans (List.getElem?_eq_getElem hk)), e1, e2⟩
    · have e : aboR s i = (zS, 71) := by unfold aboR; rw [if_pos hOk, dif_neg hP]
      rw [e] at h; simp at h
  · have e : aboR s i = (zS, 9) := if_neg hOk
    rw [e] at h; simp at h
/-- Who is active can be given up. -/
theorem abo_act {s : St} {i : Int} (hOk : Ok s) (ha : ∃ t ∈ s.l, t.i = i ∧ t.e = 0) : (aboR s i).2 = 0 := by
  obtain ⟨t, ht, e1, e2⟩ := ha
  have hP : plc i s.l < s.l.length := plc_mem.2 ⟨t, ht, e1⟩
  have hx := hOk.uniq (List.getElem_mem hP) ht ((plc_at hP).trans e1.symm)
  have h0 : ¬ s.l[plc i s.l].e ≠ 0 := by rw [hx]; simpa using e2
  unfold aboR
  rw [if_pos hOk, dif_pos hP, if_neg h0]
theorem beg_ok {s : St} (h : (begR s).2.2 = 0) : Ok s ∧ Ok (begR s).1 ∧ (begR s).1 = ⟨s.l ++ [⟨s.n, s.c, 0, false, false⟩], s.c, s.n + 1⟩ ∧ (begR s).2.1 = s.n ∧ (NB s.l → NB (begR s).1.l) := by
  by_cases hOk : Ok s
  · by_cases hf : s.l.length = 64 ∨ s.n = 1099511627776
    · have e : begR s = (zS, 0, 51) := by unfold begR; rw [if_pos hOk, if_pos hf]
      rw [e] at h; simp at h
    · have e : begR s = (⟨s.l ++ [⟨s.n, s.c, 0, false, false⟩], s.c, s.n + 1⟩, s.n, 0) := by unfold begR; rw [if_pos hOk, if_neg hf]
      rw [e]
      have h1 := hOk.len
      have h2 := hOk.n1
      refine ⟨hOk, hOk.beg (by omega) (by omega), rfl, rfl, fun hn t ht h0 => ?_⟩
      rcases List.mem_append.1 ht with k | k
      · exact hn t k h0
      · simp at k; subst k; rfl
  · have e : begR s = (zS, 0, 9) := if_neg hOk
    rw [e] at h; simp at h
theorem beg_no {s : St} (h : (begR s).2.2 ≠ 0) : (begR s).1 = zS ∧ (begR s).2.1 = 0 := by
  by_cases hOk : Ok s
  · by_cases hf : s.l.length = 64 ∨ s.n = 1099511627776
    · have e : begR s = (zS, 0, 51) := by unfold begR; rw [if_pos hOk, if_pos hf]
      rw [e]
      exact ⟨rfl, rfl⟩
    · have e : begR s = (⟨s.l ++ [⟨s.n, s.c, 0, false, false⟩], s.c, s.n + 1⟩, s.n, 0) := by unfold begR; rw [if_pos hOk, if_neg hf]
      rw [e] at h
      simp at h
  · have e : begR s = (zS, 0, 9) := if_neg hOk
    rw [e]
    exact ⟨rfl, rfl⟩
theorem ret_ok {s : St} (h : Ok s) : (retR s).2.2 = 0 ∧ Ok (retR s).1 := by
  have e : retR s = (⟨s.l.filter (fun t => !goB (minS s.c s.l) t), s.c, s.n⟩, (s.l.filter (goB (minS s.c s.l))).map Tx.i, 0) := if_pos h
  rw [e]
  exact ⟨rfl, h.sub List.filter_sublist⟩
end Go.Proofs.Ytlcmpngjmmbkcaa
