/- For any keys and any truths BtreeMap answers true (keys put and taken away, one after another, in any order: a tree is a map), and both read as before. No conditions. -/
import Derived.Test.YthjjhldmfmnflaaQXy
import Derived.Test.YthjjhldmfmnflaaQm
namespace Go.Proofs.Ythjjhldmfmnflaa.btreeMap
open Go.ChangeShapes Go.WideShapes Go.ChangeAt Go.RowKit
open Go.Proofs.Ythjjhldmfmnflaa
set_option linter.unusedSimpArgs false
set_option linter.unusedVariables false

set_option maxRecDepth 100000 in
theorem lifted (os : Os) (started : os.Started) (H : Type) (enc : TypeId × Value → H) :
    ReturnsInHanded {} Try.checked os 5 .any (Rows.btreeMapSpec.pre6 enc Try.prog Try.f5 Rows.btreeMapRow.domain false) (Rows.btreeMapSpec.post enc Try.prog Try.f5 false true false false) := by
  refine returnsInHanded_of_change_sized (C := Try.checked) own started (by kernel_rfl) Try.func5
    (ChangeSpec.witness6 (enc := enc) (C := Try.checked) false ⟨#[], #[.slice none 0 0, .slice none 0 0], []⟩ 8 (by kernel_rfl) (by kernel_rfl) (by kernel_rfl) (by kernel_rfl)) ?_
  intro W base args ds gs before hval0 hW _ hsz0 _
  have hsz : (DataW.weightsEach Try.prog (Try.f5.params.toList ++ Rows.btreeMapSpec.plain.varTypes Try.prog) (ds ++ gs)).all (· ≤ reachBytes) = true := hsz0
  clear hsz0
  have hval : ∀ (j : Nat) t v, Try.f5.params[j]? = some t → args[j]? = some v → Value.okWide Try.prog W .any base t v := hval0
  have hW' := hW
  obtain ⟨p, q, hA0, hV, rfl, _, _⟩ := hW
  have hA : DataW.TrodAll enc Try.prog W 0 (fun _ => true) true Try.f5.params.toList args.toList ds p := hA0
  rw [Try.params5] at hA hval hsz
  obtain ⟨v0, v1, d0, d1, p0, p1, rfl, rfl, rfl, h0, h1⟩ := trodAll_two hA
  obtain ⟨rfl, rfl⟩ := trodVars_none hV
  obtain ⟨A0, c0, l0, rfl, hr0, hl0⟩ := open_keys (hval 0 55 v0 rfl rfl) h0 (lt_one hsz (j := 0) rfl rfl)
  obtain ⟨A1, c1, l1, rfl, hr1, hl1⟩ := open_bools (hval 1 56 v1 rfl rfl) h1 (lt_one hsz (j := 1) rfl rfl)
  clear hA0 hval0 hsz
  simp only [List.append_nil, List.append_assoc] at hW'
  have hlt0 : ∀ y ∈ p0, y.block < W.heap.size := fun y hy => hW'.lt y (by simp [hy])
  have hlt1 : ∀ y ∈ p1, y.block < W.heap.size := fun y hy => hW'.lt y (by simp [hy])
  refine (kMap_any A0 l0.length c0 A1 l1.length c1 l0 l1 W hr0 hr1 rfl rfl).mono fun e W' ⟨he, hB⟩ => ?_
  subst he
  exact ⟨_, rfl, _, _, _, [], p0 ++ p1, [], hW', trodAll_mk1 (shut_bool Try.underlying4 _), trodAll_mk2 (Below.trod laidOutA recLS rowLS h0 hB hlt0) (Below.trod laidOutA recLB rowLB h1 hB hlt1), rfl, hB.frame _, fun h => by cases h⟩

theorem holds : Rows.BtreeMapSaid :=
  OpenClaim.holds_of_wide 5 Try.f5 rfl rfl rfl rfl rfl rfl rfl ⟨rfl, rfl, rfl, rfl, rfl⟩ rfl rfl rfl rfl rfl (by kernel_rfl) Try.func5 (by kernel_rfl)
    (of_decide_eq_true (by kernel_rfl)) (by unfold Func.isWrapper; first | (rw [if_pos (by decide +kernel)]; kernel_rfl) | (rw [if_neg (by decide +kernel)]; exact ⟨rfl, rfl⟩))
    (fun os started H enc _ => lifted os started H enc)

end Go.Proofs.Ythjjhldmfmnflaa.btreeMap
namespace Go.Proofs.Ythjjhldmfmnflaa
theorem btreeMap_holds : Rows.BtreeMapSaid := btreeMap.holds
#print axioms btreeMap_holds
end Go.Proofs.Ythjjhldmfmnflaa
