/- Which statements are formed, in the reference's words: plain mathematics. Conditions: none. -/
import Derived.Test.YtipcacplphidhaaGreatTq
import Derived.Test.YtipcacplphidhaaGreatTr
namespace Go.Proofs.YtipcacplphidhaaGreat.Sy
open Go.RowKit
set_option linter.unusedSimpArgs false
set_option linter.unusedVariables false

/-- The limit may be. -/
def limB {n : Nat} (x : St n) : Bool := if x.kind = 7 then decide (-1 ≤ x.lim) && decide (x.lim ≤ 2147483648) else decide (x.lim = 0)
/-- What stands in its lists may be. -/
def listsB {n : Nat} (x : St n) : Bool := x.cols.all colB && x.rows.all rowB && x.sets.all setB && x.ord.all ordB
theorem range8 : List.range 8 = [0, 1, 2, 3, 4, 5, 6, 7] := by decide
set_option maxHeartbeats 2000000 in
theorem formed_eq {n : Nat} (x : St n) (h1 : 1 ≤ x.kind) (h2 : x.kind ≤ 10) : formedB x = (cntB x && namesB x && listsB x && limB x && (ne0 x.jn == decide (0 < x.on.length))) := by
  obtain ⟨k, tb, cols, key, ix, rows, sets, items, jn, on, wh, gr, ord, lim⟩ := x
  dsimp only at h1 h2
  unfold formedB cntB namesB listsB limB namedB countedB cntAt lensL onN hasNm ne0
  rw [range8]
  dsimp only
  generalize cols.all colB = L1
  generalize rows.all rowB = L2
  generalize sets.all setB = L3
  generalize ord.all ordB = L4
  generalize nameB tb = N1
  generalize nameB key = N2
  generalize nameB ix = N3
  generalize nameB jn = N4
  generalize tb.toList.isEmpty = E1
  generalize key.toList.isEmpty = E2
  generalize ix.toList.isEmpty = E3
  generalize jn.toList.isEmpty = E4
  have hk : k = 1 ∨ k = 2 ∨ k = 3 ∨ k = 4 ∨ k = 5 ∨ k = 6 ∨ k = 7 ∨ k = 8 ∨ k = 9 ∨ k = 10 := by omega
  clear h1 h2
  rcases hk with rfl | rfl | rfl | rfl | rfl | rfl | rfl | rfl | rfl | rfl
  all_goals rw [Bool.eq_iff_iff]
  all_goals cases E1 <;> cases E2 <;> cases E3 <;> cases E4 <;> simp [bd1, bd4, bd5, bd6, bd7, bd0, gL, gH, gTab, spB]
  all_goals constructor
  all_goals intro h
  all_goals simp only [and_assoc] at h ⊢
  all_goals grind
end Go.Proofs.YtipcacplphidhaaGreat.Sy
