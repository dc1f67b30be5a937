/- For any two lists of values KeycodeJoins answers true (the key of the first 32 of each, one behind the other, is their keys, one behind the other), and both read as before. No conditions. -/
import Derived.Test.YtapichngakcpeaaWz
import Derived.Test.YtapichngakcpeaaWd
namespace Go.Proofs.Ytapichngakcpeaa.keycodeJoins
open Go.ChangeShapes Go.WideShapes Go.ChangeAt Go.RowKit
open Go.Proofs.Ytapichngakcpeaa
set_option linter.unusedSimpArgs false
set_option linter.unusedVariables false

set_option maxRecDepth 100000 in
theorem lifted (os : Os) (started : os.Started) (H : Type) (enc : TypeId × Value → H) :
    ReturnsInHanded {} Try.checked os 5 .any (Rows.keycodeJoinsSpec.pre6 enc Try.prog Try.f5 Rows.keycodeJoinsRow.domain false) (Rows.keycodeJoinsSpec.post enc Try.prog Try.f5 false true false false) := by
  refine returnsInHanded_of_change (C := Try.checked) own started (by kernel_rfl) Try.func5
    (ChangeSpec.witness6 (enc := enc) (C := Try.checked) false ⟨#[], #[.slice none 0 0, .slice none 0 0], []⟩ 8 (by kernel_rfl) (by kernel_rfl) (by kernel_rfl) (by kernel_rfl)) ?_
  intro W base args ds gs before hval0 hW _ _
  have hval : ∀ (j : Nat) t v, Try.f5.params[j]? = some t → args[j]? = some v → Value.okWide Try.prog W .any base t v := hval0
  have hW' := hW
  obtain ⟨p, q, hA0, hV, rfl, _, _⟩ := hW
  have hA : DataW.TrodAll enc Try.prog W 0 (fun _ => true) true Try.f5.params.toList args.toList ds p := hA0
  rw [Try.params5] at hA hval
  obtain ⟨v0, v1, d0, d1, p0, p1, rfl, rfl, rfl, h0, h1⟩ := trodAll_two hA
  obtain ⟨rfl, rfl⟩ := trodVars_none hV
  obtain ⟨A, n, c, l, rfl, hl, zA, hn, hc, rl, nl⟩ := open_vals (hval 0 22 v0 rfl rfl) h0
  obtain ⟨B, k, d, m, rfl, hm, zB, hk, hd, rm, nm⟩ := open_vals (hval 1 22 v1 rfl rfl) h1
  clear hA0 hval0
  simp only [List.append_nil] at hW'
  have hlt0 : ∀ x ∈ p0, x.block < W.heap.size := fun x hx => hW'.lt x (by simp [hx])
  have hlt1 : ∀ x ∈ p1, x.block < W.heap.size := fun x hx => hW'.lt x (by simp [hx])
  refine (kJoins_any A B n k c d l m W hl hm rl rm nl nm zA zB hn hk hc hd).mono fun e W' ⟨he, hB⟩ => ?_
  subst he
  exact ⟨_, rfl, _, _, _, [], p0 ++ p1, [], hW', trodAll_mk1 (shut_bool Try.underlying4 _), trodAll_mk2 (Below.trod laid rec22 row22 h0 hB hlt0) (Below.trod laid rec22 row22 h1 hB hlt1), rfl, hB.frame _, fun h => by cases h⟩

theorem holds : Rows.KeycodeJoinsSaid :=
  OpenClaim.holds_of_wide 5 Try.f5 rfl rfl rfl rfl rfl rfl rfl ⟨rfl, rfl, rfl, rfl, rfl⟩ rfl rfl rfl rfl rfl (by kernel_rfl) Try.func5 (by kernel_rfl)
    (of_decide_eq_true (by kernel_rfl)) (by unfold Func.isWrapper; first | (rw [if_pos (by decide +kernel)]; kernel_rfl) | (rw [if_neg (by decide +kernel)]; exact ⟨rfl, rfl⟩))
    (fun os started H enc _ => lifted os started H enc)

end Go.Proofs.Ytapichngakcpeaa.keycodeJoins
namespace Go.Proofs.Ytapichngakcpeaa
theorem keycodeJoins_holds : Rows.KeycodeJoinsSaid := keycodeJoins.holds
#print axioms keycodeJoins_holds
end Go.Proofs.Ytapichngakcpeaa
