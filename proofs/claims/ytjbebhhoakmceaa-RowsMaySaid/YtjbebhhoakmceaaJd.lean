/- What slices.Delete of one row makes of a list of rows in memory of the call's own: the walk. Conditions: a place within the list; at most 256 rows. -/
import Derived.Test.YtjbebhhoakmceaaJc
namespace Go.Proofs.Ytjbebhhoakmceaa
open Go.RowKit
set_option linter.unusedSimpArgs false
set_option linter.unusedVariables false

set_option maxRecDepth 100000 in
set_option maxHeartbeats 4000000 in
theorem delete_at (B i g cap : Nat) (cs : List Value) (w : World) (hown : Own w B (.slice (some ⟨g, 0, none⟩) cs.length cap) cs) (hi : i < cs.length) (hn : cs.length ≤ 256) (hcs1 : ∀ u ∈ cs, u.oneCell' = true) :
    Calls Try.prog 35 #[.slice (some ⟨g, 0, none⟩) cs.length cap, .int .i64 i, .int .i64 ((i : Int) + 1)] w fun e w' => e = .returned (.slice (some ⟨g, 0, none⟩) (cs.length - 1) cap) ∧ w' = (w.drew.setCells g i (cs.drop (i + 1))).setCells g (cs.length - 1) [.slice none 0 0] := by
  obtain ⟨i0, hi0, hz0, hz1, hz2⟩ := info_parts Try.infoR
  have mixed : Try.prog.follows Departure.mixedOrders = true := by kernel_rfl
  obtain ⟨cur, hg, hcap, hcm, hsz, htk⟩ : ∃ cur, w.heap[g]? = some (.cells cur 37 (0, 0)) ∧ cs.length ≤ cap ∧ cap ≤ maxLen ∧ cur.size = cap ∧ cur.toList.take cs.length = cs := by
    rcases hown.2 with ⟨h', _⟩ | ⟨g', cap', cur, h', _, h0, h2, h3, h4, h5⟩
    · cases h'
    · injection h' with h6 _ h7
      injection h6 with h6
      injection h6 with h6
      subst h6 h7
      exact ⟨cur, h0, h2, h3, by simpa using h4, by simpa using h5⟩
  clear hown
  have hcell : ∀ j, j < cap → w.cell? ⟨g, j, none⟩ = cur[j]? := fun j hj => by rw [cell_of_row w g j cur _ (0, 0) hg]
  have hfz : ∀ j, w.frozen? ⟨g, j, none⟩ = false := fun j => frozen_of_row w g j cur _ hg
  have hcc : ∀ j v, cs[j]? = some v → w.cell? ⟨g, j, none⟩ = some v := fun j v hv => by
    have hj := (List.getElem?_eq_some_iff.1 hv).1
    rw [hcell j (by omega), ← hv]
    conv => rhs; rw [← htk]
    rw [List.getElem?_take, if_pos hj, Array.getElem?_toList]
  have hsp : ∀ j, j < cap → (w.cell? ⟨g, j, none⟩).isSome = true := fun j hj => by rw [hcell j hj, Array.getElem?_eq_getElem (by omega)]; rfl
  obtain ⟨news, hnews⟩ : ∃ news, news = cs.drop (i + 1) := ⟨_, rfl⟩
  have hlen : news.length = cs.length - (i + 1) := by rw [hnews]; simp
  obtain ⟨A, hA, hsrc⟩ : ∃ A : Addr, (if cap = i + 1 then some (⟨g, 0, none⟩ : Addr) else some ⟨g, i + 1, none⟩) = some A ∧ Hid (∀ t u, news[t]? = some u → w.drew.cell? (A.add t) = some u) := by
    by_cases h : cap = i + 1
    · refine ⟨⟨g, 0, none⟩, by simp [h], fun t u hu => ?_⟩
      have h0 : news.length = 0 := by rw [hlen]; omega
      rw [List.length_eq_zero_iff.1 h0] at hu
      simp at hu
    · refine ⟨⟨g, i + 1, none⟩, by simp [h], fun t u hu => ?_⟩
      rw [hnews, List.getElem?_drop] at hu
      rw [add_lit]
      exact hcc _ u hu
  have s1 : Hid (news.length = (cs.length - (i + 1)) * 1) := by rw [Nat.mul_one]; exact hlen
  have s2 : Hid (∀ u ∈ news, u.oneCell' = true) := fun u hu => hcs1 u (by rw [hnews] at hu; exact List.mem_of_mem_drop hu)
  have s3 : Hid (∀ t, t < news.length → (w.drew.cell? ⟨g, 0 + i * 1 + t, none⟩).isSome = true ∧ w.drew.frozen? ⟨g, 0 + i * 1 + t, none⟩ = false) := by
    intro t ht
    rw [hlen] at ht
    exact ⟨hsp _ (by omega), hfz _⟩
  obtain ⟨W1, hW1⟩ : ∃ W1, W1 = w.drew.setCells g (0 + i * 1) news := ⟨_, rfl⟩
  have hW1c : ∀ j, j < cap → (W1.cell? ⟨g, j, none⟩).isSome = true := fun j hj => by rw [hW1]; exact World.isSome_setCells g _ _ _ _ (hsp j hj)
  have hW1f : ∀ j, W1.frozen? ⟨g, j, none⟩ = false := fun j => by rw [hW1, World.frozen?_setCells]; exact hfz j
  have v37 := Try.zeroValue37
  have hcl : ∀ ty, (Builtin.clear_ #[26] ty #[.slice (some ⟨g, i + (cs.length - (i + 1)), none⟩) (cs.length - (i + (cs.length - (i + 1)))) (cap - (i + (cs.length - (i + 1))))]).run Try.prog W1 = .ok (.tuple #[]) (W1.setCells g (i + (cs.length - (i + 1))) (List.replicate (cs.length - (i + (cs.length - (i + 1)))) (.slice none 0 0))) :=
    fun ty => Lib.run_clear_slice W1 _ _ ty _ Try.underlying26 v37 rfl rfl g (i + (cs.length - (i + 1))) _ _ (by omega) (fun t ht => hW1c _ (by omega)) (fun t ht => hW1f _)
  have X : Aside (W1 = w.drew.setCells g i (cs.drop (i + 1))) := by show W1 = w.drew.setCells g i (cs.drop (i + 1)); rw [hW1, hnews, Nat.zero_add, Nat.mul_one]
  have hW : Hid (W1 = w.drew.setCells g (0 + i * 1) news) := hW1
  unfold maxLen at hcm
  have hw1 : IntKind.i64.wrap ((i : Int) + 1) = (i : Int) + 1 := by rw [IntKind.wrap_i64]; omega
  have hb1 : (0 : Int) ≤ (i : Int) + 1 := by omega
  have htn : ((i : Int) + 1).toNat = i + 1 := by omega
  have hb3 : (i : Int) + 1 ≤ (cs.length : Int) := by omega
  have hb4 : i + 1 ≤ cs.length := by omega
  have hic : i ≤ cap := by omega
  have hjc : i + 1 ≤ cap := by omega
  have hne : ¬ ((i : Int) = (i : Int) + 1) := by omega
  clear hW1 hW1c hW1f hcc hsp hcell hfz htk hsz hg hnews hlen v37
  go_enter Try.func35, Try.ntmps35
  go_wp2_with fail
  go_region_law_o (refine step_append_room rfl (.tmp 22) (.tmp 25) 26 rfl 37 i0 1 Try.underlying26 hi0 hz1 g 0 i cap (by simp [Act.eval, Act.put]) A (cs.length - (i + 1)) (cap - (i + 1)) news (by simp [Act.eval, Act.put]) s1.out hsrc.out s2.out (by omega) s3.out ?_; rw [← hW.out])
  go_wp2
  go_ret
  have e1 : i + (cs.length - (i + 1)) = cs.length - 1 := by omega
  have e2 : cs.length - (cs.length - 1) = 1 := by omega
  refine ⟨by rw [e1]; rfl, ?_⟩
  rw [e1, e2, X.out]
  rfl
theorem take_cut {cur cur1 cur2 : Array Value} {cs : List Value} {i : Nat} (hc : cur.toList.take cs.length = cs) (hi : i < cs.length) (hs : cs.length ≤ cur.size)
    (h1 : ∀ j : Nat, cur1[j]? = if i ≤ j ∧ j < i + (cs.drop (i + 1)).length then (cs.drop (i + 1))[j - i]? else cur[j]?)
    (h2 : ∀ j : Nat, cur2[j]? = if cs.length - 1 ≤ j ∧ j < cs.length - 1 + 1 then [Value.slice none 0 0][j - (cs.length - 1)]? else cur1[j]?) :
    cur2.toList.take (cs.length - 1) = cs.eraseIdx i := by
  have hg : ∀ j, j < cs.length → cur[j]? = cs[j]? := fun j hj => by
    conv => rhs; rw [← hc]
    rw [List.getElem?_take, if_pos hj, Array.getElem?_toList]
  apply List.ext_getElem?
  intro j
  rw [List.getElem?_take, List.getElem?_eraseIdx]
  have hd : (cs.drop (i + 1)).length = cs.length - (i + 1) := by simp
  rw [hd] at h1
  by_cases c0 : j < cs.length - 1
  · rw [if_pos c0, Array.getElem?_toList, h2, if_neg (by omega), h1]
    by_cases c : j < i
    · rw [if_neg (by omega), if_pos c, hg j (by omega)]
    · rw [if_pos (by omega), if_neg c, List.getElem?_drop]
      congr 1
      omega
  · rw [if_neg c0]
    split
    · omega
    · rw [List.getElem?_eq_none (by omega)]
/-- slices.Delete of one row of a list of the call's own. -/
theorem delete_own (B i : Nat) (v : Value) (cs : List Value) (w : World) (hown : Own w B v cs) (hi : i < cs.length) (hn : cs.length ≤ 256) (hcs1 : ∀ u ∈ cs, u.oneCell' = true) :
    Calls Try.prog 35 #[v, .int .i64 i, .int .i64 ((i : Int) + 1)] w fun e w' => ∃ v', e = .returned v' ∧ Own w' B v' (cs.eraseIdx i) ∧ v'.ownBlock = v.ownBlock ∧ w.grownBy w' v.ownBlock := by
  obtain ⟨g, cap, rfl⟩ := Go.Joins.ownsRow_form hown (by omega)
  refine (delete_at B i g cap cs w hown hi hn hcs1).mono fun e w' ⟨he, hw⟩ => ⟨_, he, ?_, rfl, ?_⟩
  · rcases hown.2 with ⟨h', _⟩ | ⟨g', cap', cur, h', hB, h0, h2, h3, h4, h5⟩
    · cases h'
    injection h' with h6 _ h7
    injection h6 with h6
    injection h6 with h6
    subst h6 h7
    obtain ⟨cur1, a1, a2, a3⟩ := heap_setCells g 37 (cs.drop (i + 1)) i w.drew cur h0 (by simp; omega)
    obtain ⟨cur2, b1, b2, b3⟩ := heap_setCells g 37 [.slice none 0 0] (cs.length - 1) _ cur1 a1 (by simp; omega)
    have hl : (cs.eraseIdx i).length = cs.length - 1 := by rw [List.length_eraseIdx, if_pos hi]
    rw [hw]
    refine ⟨by rw [hl, Nat.mul_one], .inr ⟨g, cap, cur2, by rw [hl], hB, b1, by rw [hl]; omega, h3, by omega, ?_⟩⟩
    rw [hl, Nat.mul_one]
    exact take_cut (by simpa using h5) hi (by omega) a3 b3
  · rw [hw]
    exact grown_trans (grown_drew w _) (grown_trans (grown_setCells g _ _ _) (grown_setCells g _ _ _))
end Go.Proofs.Ytjbebhhoakmceaa
