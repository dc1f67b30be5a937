/- For any rows, any orders and any limit QuerySorts answers true (Sort answers what the reference's does, leaves its rows as they were, and Gather answers the law's two cases), and all three read as before. No conditions. -/
import Derived.Test.YtddeaiciochggaaRy
import Derived.Test.YtddeaiciochggaaRg
namespace Go.Proofs.Ytddeaiciochggaa.querySorts
open Go.ChangeShapes Go.WideShapes Go.ChangeAt Go.RowKit
open Go.Proofs.Ytddeaiciochggaa
set_option linter.unusedSimpArgs false
set_option linter.unusedVariables false

set_option maxRecDepth 100000 in
theorem lifted (os : Os) (started : os.Started) (H : Type) (enc : TypeId × Value → H) :
    ReturnsInHanded {} Try.checked os 4 .any (Rows.querySortsSpec.pre6 enc Try.prog Try.f4 Rows.querySortsRow.domain false) (Rows.querySortsSpec.post enc Try.prog Try.f4 false true false false) := by
  refine returnsInHanded_of_change_sized (C := Try.checked) own started (by kernel_rfl) Try.func4
    (ChangeSpec.witness6 (enc := enc) (C := Try.checked) false ⟨#[], #[.slice none 0 0, .slice none 0 0, .int .i64 0], []⟩ 8 (by kernel_rfl) (by kernel_rfl) (by kernel_rfl) (by kernel_rfl)) ?_
  intro W base args ds gs before hval0 hW _ hsz0 _
  have hsz : (DataW.weightsEach Try.prog (Try.f4.params.toList ++ Rows.querySortsSpec.plain.varTypes Try.prog) (ds ++ gs)).all (· ≤ reachBytes) = true := hsz0
  clear hsz0
  have hval : ∀ (j : Nat) t v, Try.f4.params[j]? = some t → args[j]? = some v → Value.okWide Try.prog W .any base t v := hval0
  have hW' := hW
  obtain ⟨p, q, hA0, hV, rfl, _, _⟩ := hW
  have hA : DataW.TrodAll enc Try.prog W 0 (fun _ => true) true Try.f4.params.toList args.toList ds p := hA0
  rw [Try.params4] at hA hval hsz
  obtain ⟨v0, v1, v2, d0, d1, d2, p0, p1, p2, rfl, rfl, rfl, h0, h1, h2⟩ := trodAll_three hA
  obtain ⟨rfl, rfl⟩ := trodVars_none hV
  obtain ⟨A, c, ls, rfl, hr, hA1, hln⟩ := open_rowsA (hval 0 50 v0 rfl rfl) h0 (lt_one hsz (j := 0) rfl rfl)
  obtain ⟨oA, oc, ords, rfl, ho, hon⟩ := open_ordsA (hval 1 29 v1 rfl rfl) h1 (lt_one hsz (j := 1) rfl rfl)
  obtain ⟨k, rfl, rfl, rfl, wk⟩ := open_int Try.underlying3 (hval 2 3 v2 rfl rfl) h2
  have hk := inR_of wk
  simp [inR] at hk
  clear hA0 hval0 hsz
  simp only [List.append_nil, List.append_assoc] at hW'
  have hlt0 : ∀ y ∈ p0, y.block < W.heap.size := fun y hy => hW'.lt y (by simp [hy])
  have hlt1 : ∀ y ∈ p1, y.block < W.heap.size := fun y hy => hW'.lt y (by simp [hy])
  refine (qs_any A oA c oc ls ords k W hr hA1 (by omega) ho hon (by omega)).mono fun e W' ⟨he, hB⟩ => ?_
  subst he
  have ht := trodAll_mk3 (Below.trod laidOut recR rowR h0 hB hlt0) (Below.trod laidOut recO rowO h1 hB hlt1) (shut_int (spare := fun b => decide (b < W.heap.size)) Try.underlying3 wk)
  rw [List.append_nil] at ht
  exact ⟨_, rfl, _, _, _, [], p0 ++ p1, [], hW', trodAll_mk1 (shut_bool Try.underlying4 _), ht, rfl, hB.frame _, fun h => by cases h⟩

theorem holds : Rows.QuerySortsSaid :=
  OpenClaim.holds_of_wide 4 Try.f4 rfl rfl rfl rfl rfl rfl rfl ⟨rfl, rfl, rfl, rfl, rfl⟩ rfl rfl rfl rfl rfl (by kernel_rfl) Try.func4 (by kernel_rfl)
    (of_decide_eq_true (by kernel_rfl)) (by unfold Func.isWrapper; first | (rw [if_pos (by decide +kernel)]; kernel_rfl) | (rw [if_neg (by decide +kernel)]; exact ⟨rfl, rfl⟩))
    (fun os started H enc _ => lifted os started H enc)

end Go.Proofs.Ytddeaiciochggaa.querySorts
namespace Go.Proofs.Ytddeaiciochggaa
theorem querySorts_holds : Rows.QuerySortsSaid := querySorts.holds
#print axioms querySorts_holds
end Go.Proofs.Ytddeaiciochggaa
