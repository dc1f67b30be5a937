/- What Add makes of a catalog: plain mathematics; tables whose indexes are put anew. Conditions: none. -/
import Derived.Test.YtfmjpikibfdlaaaNm
import Derived.Test.YtfmjpikibfdlaaaNs
namespace Go.Proofs.Ytfmjpikibfdlaaa
open Go.RowKit Go.Sort Go.Maps
set_option linter.unusedSimpArgs false
set_option linter.unusedVariables false

def addT (t : Tb) (s : ByteArray) (k : Int) : Tb := ⟨t.m, t.cols, t.key, t.idx ++ [⟨s, k⟩]⟩
/-- What Add makes. -/
def addF {n : Nat} (ls : List Tb) (x : Sy.St n) : Int × List Tb :=
  if askF ls x 2 ≠ 0 then (askF ls x 2, []) else
  if isT ls x.tb = false then (93, []) else
  match ls[posT ls x.tb]? with
  | none => (93, [])
  | some t => if t.cols.any (isC x.key) = false then (94, []) else if ls.any (hasX x.ix) = true then (6, []) else if t.idx.length = 4 then (51, []) else (0, ls.set (posT ls x.tb) (addT t x.ix (fst1 (isC x.key) t.cols)))
theorem isX_self (s : ByteArray) (k : Int) : isX s ⟨s, k⟩ = true := by
  unfold isX; exact beq_self_eq_true _
/-- What is so of an index that was made. -/
structure Added {n : Nat} (ls : List Tb) (x : Sy.St n) (hp : posT ls x.tb < ls.length) : Prop where
  ask : askF ls x 2 = 0
  there : isT ls x.tb = true
  col : ls[posT ls x.tb].cols.any (isC x.key) = true
  new : ls.any (hasX x.ix) = false
  few : ls[posT ls x.tb].idx.length ≠ 4
  eq : addF ls x = (0, ls.set (posT ls x.tb) (addT ls[posT ls x.tb] x.ix (fst1 (isC x.key) ls[posT ls x.tb].cols)))
theorem addF_at {n : Nat} {ls : List Tb} {x : Sy.St n} (h1 : askF ls x 2 = 0) (h2 : isT ls x.tb = true) (hp : posT ls x.tb < ls.length) : addF ls x = if ls[posT ls x.tb].cols.any (isC x.key) = false then (94, []) else if ls.any (hasX x.ix) = true then (6, []) else if ls[posT ls x.tb].idx.length = 4 then (51, []) else (0, ls.set (posT ls x.tb) (addT ls[posT ls x.tb] x.ix (fst1 (isC x.key) ls[posT ls x.tb].cols))) := by
  unfold addF
  rw [if_neg (by simp [h1]), if_neg (by simp [h2]), List.getElem?_eq_getElem hp]
theorem addF_ok {n : Nat} {ls : List Tb} {x : Sy.St n} (h : (addF ls x).1 = 0) : ∃ hp, Added ls x hp := by
  by_cases h1 : askF ls x 2 = 0
  · cases h2 : isT ls x.tb
    · exfalso
      unfold addF at h
      rw [if_neg (by simp [h1]), if_pos h2] at h
      exact absurd h (by decide)
    · obtain ⟨hp, _⟩ := isT_get h2
      have e := addF_at h1 h2 hp
      rw [e] at h
      by_cases h3 : ls[posT ls x.tb].cols.any (isC x.key) = false
      · rw [if_pos h3] at h
        exact absurd h (by decide)
      rw [if_neg h3] at h e
      by_cases h4 : ls.any (hasX x.ix) = true
      · rw [if_pos h4] at h
        exact absurd h (by decide)
      rw [if_neg h4] at h e
      by_cases h5 : ls[posT ls x.tb].idx.length = 4
      · rw [if_pos h5] at h
        exact absurd h (by simp)
      rw [if_neg h5] at e
      exact ⟨hp, h1, h2, by simpa using h3, by simpa using h4, h5, e⟩
  · exfalso
    unfold addF at h
    rw [if_pos h1] at h
    exact absurd h h1
/-- An index's name is taken once. -/
theorem add_again {n m : Nat} {ls : List Tb} {x : Sy.St n} {y : Sy.St m} (h : (addF ls x).1 = 0) (hix : y.ix = x.ix) : (addF (addF ls x).2 y).1 ≠ 0 := by
  intro h0
  obtain ⟨hp, ha⟩ := addF_ok h
  obtain ⟨_, hb⟩ := addF_ok h0
  have h1 := hb.new
  rw [ha.eq, hix] at h1
  have h2 : (ls.set (posT ls x.tb) (addT ls[posT ls x.tb] x.ix (fst1 (isC x.key) ls[posT ls x.tb].cols))).any (hasX x.ix) = true := by
    refine List.any_eq_true.2 ⟨_, List.mem_iff_getElem.2 ⟨posT ls x.tb, by simpa using hp, List.getElem_set_self _⟩, ?_⟩
    unfold hasX addT
    simp [isX_self]
  exact absurd (h1.symm.trans h2) (by decide)
/-- What is so of a statement that makes an index. -/
structure Mk2 {n : Nat} (x : Sy.St n) : Prop where
  tb : nameB x.tb = true
  key : nameB x.key = true
  ix : nameB x.ix = true
theorem mk2_of {n : Nat} {x : Sy.St n} (hk : x.kind = 2) (h : Sy.chkSt x = 0) : Mk2 x := by
  obtain ⟨h1, h2, h3⟩ := formed_parts (chkSt_formed h)
  rw [hk] at h1
  simp only [Sy.namedB, Bool.and_eq_true] at h1
  exact ⟨hasNm_one h1.1.1.1, hasNm_one h1.1.1.2, hasNm_one h1.1.2⟩
theorem trC_set : ∀ (xs : List Tr) (i : Nat) (hi : i < xs.length) (A : Option Addr) (c : Nat) (l : List Ix), (xs.flatMap trC).set (i * 4 + 3) (.slice A l.length c) = (xs.set i ⟨⟨xs[i].t.m, xs[i].t.cols, xs[i].t.key, l⟩, xs[i].A, xs[i].c, A, c⟩).flatMap trC
  | a :: xs, 0, _, A, c, l => by simp [trC]
  | a :: xs, i + 1, hi, A, c, l => by
    have ih := trC_set xs i (by simpa using hi) A c l
    simp only [List.flatMap_cons, List.set_cons_succ, List.getElem_cons_succ]
    rw [← ih]
    have e : (i + 1) * 4 + 3 = (i * 4 + 3) + 4 := by omega
    rw [e]
    simp [trC]
/-- A table's indexes put anew: the append, then the store. -/
theorem Tbs.anew {w w2 : World} {B g cap i : Nat} {xs : List Tr} (h : Tbs w B (.slice (some ⟨g, 0, none⟩) xs.length cap) xs) (hap : Apart xs) (hi : i < xs.length) {A : Option Addr} {c : Nat} {l : List Ix} (hg : w.grownBy w2 (ixB1 xs[i])) (ho : OwnX w2 B (.slice A l.length c) l) :
    Tbs (w2.setCell ⟨g, i * 4 + 3, none⟩ (.slice A l.length c)) B (.slice (some ⟨g, 0, none⟩) xs.length cap) (xs.set i ⟨⟨xs[i].t.m, xs[i].t.cols, xs[i].t.key, l⟩, xs[i].A, xs[i].c, A, c⟩) ∧ w2.heap[g]? = w.heap[g]? := by
  have hT := own_type h.own
  have hne : ∀ k, ixB1 xs[i] = some k → ∃ cs fr, w.heap[k]? = some (.cells cs 81 fr) := own_type (h.tabs _ (List.getElem_mem hi)).x
  have hog : (Value.slice (some ⟨g, 0, none⟩) xs.length cap).ownBlock = some g := rfl
  have h1 := h.own.kept hg (by
    refine .inr (fun e => ?_)
    obtain ⟨cs, fr, h2⟩ := hne g (by rw [← e, hog])
    exact own_ne h.own h2 (by decide) hog)
  have hgg : w2.heap[g]? = w.heap[g]? := hg.block g (h.own.lt g hog).2 (fun e => by
    obtain ⟨cs, fr, h2⟩ := hne g e.symm
    exact own_ne h.own h2 (by decide) hog)
  obtain ⟨cs, fr, hgt⟩ := hT g hog
  rw [← hgg] at hgt
  have h2 := (World.ownsRow.stored h1 (i * 4 + 3) (.slice A l.length c)).1
  rw [trC_set xs i hi] at h2
  have hgs := grown_setCell w2 g (i * 4 + 3) (.slice A l.length c)
  have hbt : ∀ k, some g = some k → ∃ cs T fr, w2.heap[k]? = some (.cells cs T fr) ∧ T ≠ 63 ∧ T ≠ 81 := fun k hk => by
    injection hk with hk
    subst hk
    exact ⟨cs, _, fr, hgt, by decide, by decide⟩
  refine ⟨⟨by rw [List.length_set]; exact h2, fun y hy => ?_⟩, hgg⟩
  obtain ⟨j, hj, e⟩ := List.mem_iff_getElem.1 hy
  rw [List.length_set] at hj
  rw [List.getElem_set] at e
  split at e
  · rename_i hij
    subst e
    have hx := h.tabs _ (List.getElem_mem hi)
    refine TrO.kept ⟨?_, ho⟩ hgs hbt
    exact ownC_kept hx.c hg (fun k hk => by
      obtain ⟨cs, fr, h3⟩ := hne k hk
      exact ⟨cs, _, fr, h3, by decide⟩)
  · rename_i hij
    subst e
    have hx := h.tabs _ (List.getElem_mem hj)
    refine TrO.kept ⟨?_, ?_⟩ hgs hbt
    · exact ownC_kept hx.c hg (fun k hk => by
        obtain ⟨cs, fr, h3⟩ := hne k hk
        exact ⟨cs, _, fr, h3, by decide⟩)
    · refine hx.x.kept hg ?_
      cases hv : ixB1 xs[j] with
      | none => exact .inl hv
      | some b =>
        refine .inr (fun e => ?_)
        rw [show (Value.slice xs[j].A' xs[j].t.idx.length xs[j].c').ownBlock = some b from hv] at e
        rcases Nat.lt_or_gt_of_ne hij with h3 | h3
        · exact List.pairwise_iff_getElem.1 hap i j hi hj h3 b e.symm hv
        · exact List.pairwise_iff_getElem.1 hap j i hj hi h3 b hv e.symm
end Go.Proofs.Ytfmjpikibfdlaaa
