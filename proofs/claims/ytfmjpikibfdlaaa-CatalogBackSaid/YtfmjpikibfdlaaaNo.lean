/- What slices.Insert makes of tables of the call's own, at their end: the walk. Conditions: at most a hundred tables. -/
import Derived.Test.YtfmjpikibfdlaaaNm
namespace Go.Proofs.Ytfmjpikibfdlaaa
open Go.RowKit Go.Sort Go.Maps
set_option linter.unusedSimpArgs false
set_option linter.unusedVariables false

set_option maxRecDepth 100000 in
set_option maxHeartbeats 4000000 in
theorem insert_endT (n : Nat) (hn : n ≤ 100) (W : World) (B : Nat) (v : Value) (xs : List Tr) (y : Tr) (p : Nat) (hl : xs.length = n) (ht : Tbs W B v xs) (hy : TrO W B y) (hB : B ≤ W.heap.size) (hc : ∀ j u, (trC y)[j]? = some u → W.cell? ⟨p, j, none⟩ = some u) :
    Calls Try.prog 26 #[v, .int .i64 n, .slice (some ⟨p, 0, none⟩) 1 1] W fun e w' => ∃ v', e = .returned v' ∧ Tbs w' B v' (xs ++ [y]) ∧ W.grownBy w' v.ownBlock := by
  subst hl
  obtain ⟨i0, hi, hz0, hz1, hz2⟩ := info_parts Try.infoT
  have HT := Lib.hid ht
  have HY := Lib.hid hy
  have HC := Lib.hid hc
  have hne : ¬ ((1 : Int) = 0) := by decide
  have hone : ∀ u ∈ trC y, u.oneCell' = true := fun u hu => by
    simp [trC] at hu
    rcases hu with rfl | rfl | rfl | rfl <;> rfl
  rcases Go.Joins.ownsRow_forms ht.own with ⟨rfl, h0⟩ | ⟨g, cap, rfl⟩
  · have : xs = [] := List.eq_nil_of_length_eq_zero h0
    subst this
    clear ht hy hc h0
    go_enter Try.func26, Try.ntmps26
    go_wp2_with (at_builtin; refine wpList_append_own_at _ rfl _ _ 33 rfl B 47 i0 (.agg #[.string ⟨#[]⟩, .slice none 0 0, .int .i64 0, .slice none 0 0]) 4 72 Try.underlying33 hi hz0 hz1 hz2 rfl (by decide) _ _ _ rfl HT.out.own ⟨p, 0, none⟩ 1 1 (trC y) rfl rfl ?c1 hone ?c3 ?c4 hB ?_)
    case c1 => exact fun j u hj => by rw [add_lit, Nat.zero_add]; exact HC.out j u hj
    case c3 => unfold maxLen; decide
    case c4 => decide
    intro v' w' hown' hg _ _
    have HM := Lib.hid (HT.out.more HY.out hown' hg)
    clear hown'
    go_wp2
    go_ret
    exact ⟨_, rfl, HM.out, hg⟩
  · have hcp : xs.length ≤ cap ∧ cap ≤ 9223372036854775807 := by
      rcases ht.own.2 with ⟨h', _⟩ | ⟨g', cap', cur, h', _, _, h2, h3, _⟩
      · cases h'
      · injection h' with _ _ h'
        subst h'
        exact ⟨h2, by unfold maxLen at h3; omega⟩
    obtain ⟨hc1, hc2⟩ := hcp
    clear ht hy hc
    by_cases hcap : cap = xs.length
    all_goals
      go_enter Try.func26, Try.ntmps26
      go_wp2_with (at_builtin; refine wpList_append_own_at _ rfl _ _ 33 rfl B 47 i0 (.agg #[.string ⟨#[]⟩, .slice none 0 0, .int .i64 0, .slice none 0 0]) 4 72 Try.underlying33 hi hz0 hz1 hz2 rfl (by decide) _ _ _ rfl HT.out.own ⟨p, 0, none⟩ 1 1 (trC y) rfl rfl ?c1 hone ?c3 ?c4 hB ?_)
      case c1 => exact fun j u hj => by rw [add_lit, Nat.zero_add]; exact HC.out j u hj
      case c3 => unfold maxLen; omega
      case c4 => omega
      intro v' w' hown' hg _ _
      have HM := Lib.hid (HT.out.more HY.out hown' hg)
      clear hown'
      go_wp2
      go_ret
      exact ⟨_, rfl, HM.out, hg⟩
theorem insOk_zero : InsOk 0 := fun W B i v xs y p hl hi ht hy hB hc _ => by
  have e : i = 0 := by omega
  subst e
  have hx : xs = [] := List.eq_nil_of_length_eq_zero hl
  subst hx
  exact insert_endT 0 (by omega) W B v [] y p rfl ht hy hB hc
end Go.Proofs.Ytfmjpikibfdlaaa
