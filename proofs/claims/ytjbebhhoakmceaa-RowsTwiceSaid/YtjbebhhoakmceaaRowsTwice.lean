/- For any table, any rows and any row RowsTwice answers true (a row whose key is there is refused, and so are two of one key), and all three read as before. No conditions. -/
import Derived.Test.YtjbebhhoakmceaaKy
import Derived.Test.YtjbebhhoakmceaaKb
namespace Go.Proofs.Ytjbebhhoakmceaa.rowsTwice
open Go.ChangeShapes Go.WideShapes Go.ChangeAt Go.RowKit
open Go.Proofs.Ytjbebhhoakmceaa
set_option linter.unusedSimpArgs false
set_option linter.unusedVariables false

set_option maxRecDepth 100000 in
theorem lifted (os : Os) (started : os.Started) (H : Type) (enc : TypeId × Value → H) :
    ReturnsInHanded {} Try.checked os 4 .any (Rows.rowsTwiceSpec.pre6 enc Try.prog Try.f4 Rows.rowsTwiceRow.domain false) (Rows.rowsTwiceSpec.post enc Try.prog Try.f4 false true false false) := by
  refine returnsInHanded_of_change_sized (C := Try.checked) own started (by kernel_rfl) Try.func4
    (ChangeSpec.witness6 (enc := enc) (C := Try.checked) false ⟨#[], #[.agg #[.string ⟨#[]⟩, .slice none 0 0, .int .i64 0, .slice none 0 0], .slice none 0 0, .slice none 0 0], []⟩ 8 (by kernel_rfl) (by kernel_rfl) (by kernel_rfl) (by kernel_rfl)) ?_
  intro W base args ds gs before hval0 hW _ hsz0 _
  have hsz : (DataW.weightsEach Try.prog (Try.f4.params.toList ++ Rows.rowsTwiceSpec.plain.varTypes Try.prog) (ds ++ gs)).all (· ≤ reachBytes) = true := hsz0
  clear hsz0
  have hval : ∀ (j : Nat) t v, Try.f4.params[j]? = some t → args[j]? = some v → Value.okWide Try.prog W .any base t v := hval0
  have hW' := hW
  obtain ⟨p, q, hA0, hV, rfl, _, _⟩ := hW
  have hA : DataW.TrodAll enc Try.prog W 0 (fun _ => true) true Try.f4.params.toList args.toList ds p := hA0
  rw [Try.params4] at hA hval hsz
  obtain ⟨v0, v1, v2, d0, d1, d2, p0, p1, p2, rfl, rfl, rfl, h0, h1, h2⟩ := trodAll_three hA
  obtain ⟨rfl, rfl⟩ := trodVars_none hV
  obtain ⟨t, cA, iA, cc, ic, rfl, hc, hx, hcA, hn, hk⟩ := open_tab (hval 0 25 v0 rfl rfl) h0 (lt_one hsz (j := 0) rfl rfl)
  obtain ⟨A, c, ls, rfl, hr, hA1, hln⟩ := open_rowsA (hval 1 26 v1 rfl rfl) h1 (lt_one hsz (j := 1) rfl rfl)
  obtain ⟨r, hrv⟩ := open_rowA (hval 2 37 v2 rfl rfl) h2 (lt_one hsz (j := 2) rfl rfl)
  clear hA0 hval0 hsz
  simp only [List.append_nil, List.append_assoc] at hW'
  have hlt0 : ∀ y ∈ p0, y.block < W.heap.size := fun y hy => hW'.lt y (by simp [hy])
  have hlt1 : ∀ y ∈ p1, y.block < W.heap.size := fun y hy => hW'.lt y (by simp [hy])
  have hlt2 : ∀ y ∈ p2, y.block < W.heap.size := fun y hy => hW'.lt y (by simp [hy])
  refine (kTwice_any t cA iA cc ic A c ls v2 r W hc hx hcA hn hk hr hA1 (by omega) hrv).mono fun e W' ⟨he, hB⟩ => ?_
  subst he
  exact ⟨_, rfl, _, _, _, [], p0 ++ (p1 ++ p2), [], hW', trodAll_mk1 (shut_bool Try.underlying4 _), trodAll_mk3 (Below.trod laidOut recT rowT h0 hB hlt0) (Below.trod laidOut recR rowR h1 hB hlt1) (Below.trod laidOut recL rowL h2 hB hlt2), rfl, hB.frame _, fun h => by cases h⟩

theorem holds : Rows.RowsTwiceSaid :=
  OpenClaim.holds_of_wide 4 Try.f4 rfl rfl rfl rfl rfl rfl rfl ⟨rfl, rfl, rfl, rfl, rfl⟩ rfl rfl rfl rfl rfl (by kernel_rfl) Try.func4 (by kernel_rfl)
    (of_decide_eq_true (by kernel_rfl)) (by unfold Func.isWrapper; first | (rw [if_pos (by decide +kernel)]; kernel_rfl) | (rw [if_neg (by decide +kernel)]; exact ⟨rfl, rfl⟩))
    (fun os started H enc _ => lifted os started H enc)

end Go.Proofs.Ytjbebhhoakmceaa.rowsTwice
namespace Go.Proofs.Ytjbebhhoakmceaa
theorem rowsTwice_holds : Rows.RowsTwiceSaid := rowsTwice.holds
#print axioms rowsTwice_holds
end Go.Proofs.Ytjbebhhoakmceaa
