/- For any catalog and any statement CatalogOwn answers true (the catalog that follows shares nothing with what was handed in), and both read as before. No conditions. -/
import Derived.Test.YtipcacplphidhaaGreatQd
import Derived.Test.YtipcacplphidhaaGreatQk
import Derived.Test.YtipcacplphidhaaGreatQj
namespace Go.Proofs.YtipcacplphidhaaGreat.catalogOwn
open Go.ChangeShapes Go.WideShapes Go.ChangeAt Go.RowKit
open Go.Proofs.YtipcacplphidhaaGreat
set_option linter.unusedSimpArgs false
set_option linter.unusedVariables false

set_option maxRecDepth 100000 in
theorem lifted (os : Os) (started : os.Started) (H : Type) (enc : TypeId × Value → H) :
    ReturnsInHanded {} Tryz.checked os 3 .any (Rows.catalogOwnSpec.pre6 enc Tryz.prog Tryz.f3 Rows.catalogOwnRow.domain false) (Rows.catalogOwnSpec.post enc Tryz.prog Tryz.f3 false true false false) := by
  refine returnsInHanded_of_change_sized (C := Tryz.checked) own started (by kernel_rfl) Tryz.func3
    (ChangeSpec.witness6 (enc := enc) (C := Tryz.checked) false ⟨#[], #[.agg #[.slice none 0 0], .agg #[.int .i64 0, .string ⟨#[]⟩, .slice none 0 0, .string ⟨#[]⟩, .string ⟨#[]⟩, .slice none 0 0, .slice none 0 0, .slice none 0 0, .string ⟨#[]⟩, .slice none 0 0, .slice none 0 0, .slice none 0 0, .slice none 0 0, .int .i64 0]], []⟩ 8 (by kernel_rfl) (by kernel_rfl) (by kernel_rfl) (by kernel_rfl)) ?_
  intro W base args ds gs before hval0 hW _ hsz0 _
  have hsz : (DataW.weightsEach Tryz.prog (Tryz.f3.params.toList ++ Rows.catalogOwnSpec.plain.varTypes Tryz.prog) (ds ++ gs)).all (· ≤ reachBytes) = true := hsz0
  clear hsz0
  have hval : ∀ (j : Nat) t v, Tryz.f3.params[j]? = some t → args[j]? = some v → Value.okWide Tryz.prog W .any base t v := hval0
  have hW' := hW
  obtain ⟨p, q, hA0, hV, rfl, _, _⟩ := hW
  have hA : DataW.TrodAll enc Tryz.prog W 0 (fun _ => true) true Tryz.f3.params.toList args.toList ds p := hA0
  rw [Tryz.params3] at hA hval hsz
  obtain ⟨v0, v1, d0, d1, p0, p1, rfl, rfl, rfl, h0, h1⟩ := trodAll_two hA
  obtain ⟨rfl, rfl⟩ := trodVars_none hV
  obtain ⟨A, c, ls, rfl, hr, hln⟩ := open_state (hval 0 24 v0 rfl rfl) h0 (lt_one hsz (j := 0) rfl rfl)
  obtain ⟨hcap, hcm⟩ := state_cap h0
  obtain ⟨f1, g1⟩ := Sy.open_stmt (hval 1 31 v1 rfl rfl) h1 (fun n hn => lt_one hsz (j := 1) rfl rfl n hn)
  obtain ⟨z1, hs1, rfl, hz1⟩ := g1 f1 (Nat.le_refl _)
  clear hA0 hval0 hsz
  simp only [List.append_nil, List.append_assoc] at hW'
  have hlt0 : ∀ y ∈ p0, y.block < W.heap.size := fun y hy => hW'.lt y (by simp [hy])
  have hlt1 : ∀ y ∈ p1, y.block < W.heap.size := fun y hy => hW'.lt y (by simp [hy])
  refine (kOwn_any A c ls z1 hs1 W hr hcap hcm (by omega) hz1).mono fun e W' ⟨he, hB⟩ => ?_
  subst he
  exact ⟨_, rfl, _, _, _, [], p0 ++ p1, [], hW', trodAll_mk1 (shut_bool Tryz.underlying4 _), trodAll_mk2 (Below.trod laidOut recS rowS h0 hB hlt0) (Below.trod laidOut recM rowM h1 hB hlt1), rfl, hB.frame _, fun h => by cases h⟩

theorem holds : Rows.CatalogOwnSaid :=
  OpenClaim.holds_of_wide 3 Tryz.f3 rfl rfl rfl rfl rfl rfl rfl ⟨rfl, rfl, rfl, rfl, rfl⟩ rfl rfl rfl rfl rfl (by kernel_rfl) Tryz.func3 (by kernel_rfl)
    (of_decide_eq_true (by kernel_rfl)) (by unfold Func.isWrapper; first | (rw [if_pos (by decide +kernel)]; kernel_rfl) | (rw [if_neg (by decide +kernel)]; exact ⟨rfl, rfl⟩))
    (fun os started H enc _ => lifted os started H enc)

end Go.Proofs.YtipcacplphidhaaGreat.catalogOwn
namespace Go.Proofs.YtipcacplphidhaaGreat
theorem catalogOwn_holds : Rows.CatalogOwnSaid := catalogOwn.holds
#print axioms catalogOwn_holds
end Go.Proofs.YtipcacplphidhaaGreat
