/- slices.Insert of one lock into a list of locks in memory of the call's own. Conditions: at most 600 locks. -/
import Derived.Test.YtmjcmeebcochgaaVg2
namespace Go.Proofs.Ytmjcmeebcochgaa
open Go.RowKit Go.Sort Go.Maps
set_option linter.unusedSimpArgs false
set_option linter.unusedVariables false

/-- What Insert makes of a list: one of the call's own, its row or a new one. -/
def InsX (B : Nat) (v : Value) (m : List Lk) (w : World) (e : Ending) (w' : World) : Prop := ∃ v', e = .returned v' ∧ w'.ownsRow B 34 3 v' m.length (lks m) ∧ w.grownBy w' v.ownBlock
set_option maxRecDepth 100000 in
set_option maxHeartbeats 4000000 in
theorem insert_end (n : Nat) (hn : n ≤ 600) (W : World) (B : Nat) (v : Value) (xs : List Lk) (y : Lk) (p : Nat) (hl : xs.length = n) (ht : W.ownsRow B 34 3 v xs.length (lks xs)) (hB : B ≤ W.heap.size) (hc : ∀ j u, (lkC y)[j]? = some u → W.cell? ⟨p, j, none⟩ = some u) :
    Calls Try.prog 48 #[v, .int .i64 n, .slice (some ⟨p, 0, none⟩) 1 1] W (InsX B v (xs ++ [y]) W) := by
  subst hl
  obtain ⟨i0, hi, hz0, hz1, hz2⟩ := info_parts Try.infoV
  have HT := Lib.hid ht
  have HC := Lib.hid hc
  have hne : ¬ ((1 : Int) = 0) := by decide
  have hone : ∀ u ∈ lkC y, u.oneCell' = true := fun u hu => by
    simp [lkC] at hu
    rcases hu with rfl | rfl | rfl <;> rfl
  have HE : Hid (lks xs ++ lkC y = lks (xs ++ [y])) := Lib.hid (by rw [lks_app]; simp [lks])
  rcases Go.Joins.ownsRow_forms ht with ⟨rfl, h0⟩ | ⟨g, cap, rfl⟩
  · have : xs = [] := List.eq_nil_of_length_eq_zero h0
    subst this
    clear ht hc h0
    go_enter Try.func48, Try.ntmps48
    go_wp2_with (at_builtin; refine wpList_append_own_at _ rfl _ _ 27 rfl B 34 i0 (.agg #[.int .i64 0, .string ⟨#[]⟩, .string ⟨#[]⟩]) 3 40 Try.underlying27 hi hz0 hz1 hz2 rfl (by decide) _ _ _ rfl HT.out ⟨p, 0, none⟩ 1 1 (lkC y) rfl rfl ?c1 hone ?c3 ?c4 hB ?_)
    case c1 => exact fun j u hj => by rw [add_lit, Nat.zero_add]; exact HC.out j u hj
    case c3 => unfold maxLen; decide
    case c4 => decide
    intro v' w' hown' hg _ _
    have HM := Lib.hid hown'
    clear hown'
    go_wp2
    go_ret
    exact ⟨_, rfl, by have := HM.out; rw [HE.out] at this; simpa using this, hg⟩
  · have hcp : xs.length ≤ cap ∧ cap ≤ 9223372036854775807 := by
      rcases ht.2 with ⟨h', _⟩ | ⟨g', cap', cur, h', _, _, h2, h3, _⟩
      · cases h'
      · injection h' with _ _ h'
        subst h'
        exact ⟨h2, by unfold maxLen at h3; omega⟩
    obtain ⟨hc1, hc2⟩ := hcp
    clear ht hc
    by_cases hcap : cap = xs.length
    all_goals
      go_enter Try.func48, Try.ntmps48
      go_wp2_with (at_builtin; refine wpList_append_own_at _ rfl _ _ 27 rfl B 34 i0 (.agg #[.int .i64 0, .string ⟨#[]⟩, .string ⟨#[]⟩]) 3 40 Try.underlying27 hi hz0 hz1 hz2 rfl (by decide) _ _ _ rfl HT.out ⟨p, 0, none⟩ 1 1 (lkC y) rfl rfl ?c1 hone ?c3 ?c4 hB ?_)
      case c1 => exact fun j u hj => by rw [add_lit, Nat.zero_add]; exact HC.out j u hj
      case c3 => unfold maxLen; omega
      case c4 => omega
      intro v' w' hown' hg _ _
      have HM := Lib.hid hown'
      clear hown'
      go_wp2
      go_ret
      exact ⟨_, rfl, by have := HM.out; rw [HE.out] at this; simpa using this, hg⟩
theorem insert_any (n : Nat) (hn : n ≤ 600) (W : World) (B i : Nat) (v : Value) (xs : List Lk) (y : Lk) (p : Nat) (hl : xs.length = n) (hi : i ≤ n) (ht : W.ownsRow B 34 3 v xs.length (lks xs)) (hB : B ≤ W.heap.size) (hx : W.heap[p]? = some (.cells (lkC y).toArray 34 (0, 0))) (hvb : v.ownBlock ≠ some p) :
    Calls Try.prog 48 #[v, .int .i64 i, .slice (some ⟨p, 0, none⟩) 1 1] W (InsX B v (xs.take i ++ y :: xs.drop i) W) := by
  subst hl
  have hxc := row_cells hx
  by_cases he : i = xs.length
  · subst he
    refine (insert_end xs.length hn W B v xs y p rfl ht hB hxc).mono fun e w' h => ?_
    rw [List.take_length, List.drop_length]
    exact h
  · obtain ⟨g, cap, rfl⟩ := ownsRow_some ht (by omega)
    have hgp : p ≠ g := fun e => hvb (by rw [e]; rfl)
    have hcl := lks_len xs
    have hl : (xs.take i ++ y :: xs.drop i).length = xs.length + 1 := by simp; omega
    have hc : xs.length ≤ cap := by
      rcases ht.2 with ⟨h', _⟩ | ⟨g', cap', cur, h', _, _, h2, h3, _⟩
      · cases h'
      · injection h' with _ _ h'
        subst h'
        exact h2
    by_cases hcap : cap = xs.length
    · subst hcap
      refine (insertT_grow B i g xs y p W ht (by omega) hn hxc).mono fun e w' ⟨he', hw⟩ => ?_
      have hG := grownCap_ge W (xs.length + 1) xs.length 34
      have hG2 := grownCap_le_maxLen W (xs.length + 1) xs.length 34 (by unfold maxLen; omega)
      generalize grownCap W (xs.length + 1) xs.length 34 = G at hG hG2 hw he'
      obtain ⟨ROW, hROW⟩ : ∃ ROW : Array Value, ROW = ((lks xs).take (i * 3)).toArray ++ Builtin.zeroCells zA.cells (xs.length + 1 - i) ++ Builtin.zeroCells zA.cells (G - (xs.length + 1)) := ⟨_, rfl⟩
      rw [← hROW] at hw
      have hs : ROW.size = G * 3 := by rw [hROW]; simp only [Array.size_append, List.size_toArray, List.length_take, zeroT_len]; omega
      have h0 : ∀ j, j < i * 3 → ROW[j]? = (lks xs)[j]? := fun j hj => by
        rw [hROW, Array.append_assoc, Array.getElem?_append_left (by rw [List.size_toArray, List.length_take]; omega), List.getElem?_toArray, List.getElem?_take, if_pos hj]
      obtain ⟨cur1, a1, a2, a3⟩ := heap_setCells W.heap.size 34 (lkC y) (i * 3) ((W.alloc (.cells ROW 34)).drew) ROW (heap_alloc_new W _) (by rw [lkC_len]; omega)
      obtain ⟨cur2, b1, b2, b3⟩ := heap_setCells W.heap.size 34 ((lks xs).drop (i * 3)) ((i + 1) * 3) (((W.alloc (.cells ROW 34)).drew.setCells W.heap.size (i * 3) (lkC y)).drew) cur1 a1 (by rw [List.length_drop]; omega)
      have hgw : W.grownBy w' (some g) := by
        rw [hw]
        exact grown_some (grown_news _ _ _ _ _ (Nat.le_refl _) (grown_trans (grown_news _ _ _ _ _ (Nat.le_refl _) (grown_trans (World.grownBy_alloc W _ none) (grown_drew _ _))) (grown_drew _ _)))
      refine ⟨_, he', ?_, hgw⟩
      rw [hw]
      refine ⟨by rw [lks_len], .inr ⟨W.heap.size, G, cur2, by rw [hl], hB, b1, by rw [hl]; exact hG, hG2, by omega, ?_⟩⟩
      rw [hl, ins_flat]
      have h9 := take_newK (q := (i + 1) * 3) hcl (by omega) (by rw [lkC_len]; omega) h0 a3 b3
      rw [lkC_len] at h9
      rw [show (xs.length + 1) * 3 = xs.length * 3 + 3 by omega]
      exact h9
    · refine (insertT_shift B i g cap xs y p W ht (by omega) (by omega) (by omega) hx hgp).mono fun e w' ⟨he', hw⟩ => ?_
      have hgw : W.grownBy w' (some g) := by
        rw [hw]
        exact grown_trans (grown_drew W _) (grown_trans (grown_setCells g _ _ _) (grown_setCells g _ _ _))
      rcases ht.2 with ⟨h', _⟩ | ⟨g', cap', cur, h', hB', h0, h2, h3, h4, h5⟩
      · cases h'
      injection h' with h6 _ h7
      injection h6 with h6
      injection h6 with h6
      subst h6 h7
      obtain ⟨cur1, a1, a2, a3⟩ := heap_setCells g 34 ((lks xs).drop (i * 3)) ((i + 1) * 3) W.drew cur h0 (by rw [List.length_drop]; omega)
      obtain ⟨cur2, b1, b2, b3⟩ := heap_setCells g 34 (lkC y) (i * 3) _ cur1 a1 (by rw [lkC_len]; omega)
      refine ⟨.slice (some ⟨g, 0, none⟩) (xs.length + 1) cap, he', ?_, hgw⟩
      rw [hw]
      refine ⟨by rw [lks_len], .inr ⟨g, cap, cur2, by rw [hl], hB', b1, by rw [hl]; omega, h3, by omega, ?_⟩⟩
      rw [hl, ins_flat]
      have h9 := take_shiftK (q := (i + 1) * 3) (by simpa using h5) hcl (by omega) (by rw [lkC_len]; omega) a3 b3
      rw [lkC_len] at h9
      rw [show (xs.length + 1) * 3 = xs.length * 3 + 3 by omega]
      exact h9
end Go.Proofs.Ytmjcmeebcochgaa
