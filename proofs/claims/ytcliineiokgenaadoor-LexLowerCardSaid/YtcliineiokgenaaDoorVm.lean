/- What alive, num and Keyword answer: the walks. Conditions: strconv.ErrRange holds an error; a text's length as every machine keeps it. -/
import Derived.Test.YtcliineiokgenaaDoorVl
namespace Go.Proofs.YtcliineiokgenaaDoor
open Go.RowKit
set_option linter.unusedSimpArgs false
set_option linter.unusedVariables false

set_option maxHeartbeats 400000 in
theorem num_any (n : Int) (w : World) : Calls Tryd.prog 9 #[.int .i64 n] w fun e w' => e = .returned (.int .i64 n) ∧ w = w' := by
  go_enter Tryd.func9, Tryd.ntmps9
  go_wp2
  go_ret
  exact ⟨rfl, rfl⟩

theorem add0 (g j : Nat) : (⟨g, 0, none⟩ : Addr).add j = ⟨g, j, none⟩ := by unfold Addr.add; split <;> simp_all

set_option maxHeartbeats 2000000 in
theorem alive_any (w : World) (hr : Ran w) : Calls Tryd.prog 7 #[] w fun e w' => e = .returned (.bool true) ∧ Below w.heap.size w w' := by
  have h := lex_any ⟨#[97, 60, 61, 39, 105, 116, 39, 39, 115, 39]⟩ w (by decide) hr
  have hR : lexL (⟨#[97, 60, 61, 39, 105, 116, 39, 39, 115, 39]⟩ : ByteArray).data.toList = .ok [⟨1, [97], 0, 0⟩, ⟨4, [60, 61], 0, 1⟩, ⟨3, [105, 116, 39, 115], 0, 3⟩] := by decide
  rw [hR] at h
  have h' : Calls Tryd.prog 8 #[.string ⟨#[97, 60, 61, 39, 105, 116, 39, 39, 115, 39]⟩] w fun e w' => ∃ g c, e = .returned (.tuple #[.slice (some ⟨g, 0, none⟩) 3 c, .int .i64 10, .int .i64 0]) ∧ Below w.heap.size w w' ∧
      w'.cell? ⟨g, 0, none⟩ = some (.int .i64 1) ∧ w'.cell? ⟨g, 5, none⟩ = some (.string ⟨#[60, 61]⟩) ∧ w'.cell? ⟨g, 9, none⟩ = some (.string ⟨#[105, 116, 39, 115]⟩) ∧ w'.cell? ⟨g, 11, none⟩ = some (.int .i64 3) := by
    refine h.mono fun e w' hp => ?_
    obtain ⟨⟨v, rfl, ho⟩, hB⟩ := (show (∃ v, e = .returned (.tuple #[v, .int .i64 10, .int .i64 0]) ∧ w'.ownsRow w.heap.size 31 4 v 3 (toks [⟨1, [97], 0, 0⟩, ⟨4, [60, 61], 0, 1⟩, ⟨3, [105, 116, 39, 115], 0, 3⟩])) ∧ Below w.heap.size w w' from hp)
    obtain ⟨g, c, rfl⟩ : ∃ g c, v = .slice (some ⟨g, 0, none⟩) 3 c := by
      rcases ho.2 with ⟨_, h0⟩ | ⟨g, cap, cur, hv, _⟩
      · cases h0
      · exact ⟨g, cap, hv⟩
    have hc : ∀ (j : Nat) (u : Value), (toks [⟨1, [97], 0, 0⟩, ⟨4, [60, 61], 0, 1⟩, ⟨3, [105, 116, 39, 115], 0, 3⟩])[j]? = some u → w'.cell? ⟨g, j, none⟩ = some u := fun j u hj => by rw [← add0]; exact ho.cells (g := g) rfl j u hj
    refine ⟨g, c, rfl, hB, ?_, ?_, ?_, ?_⟩
    · exact hc 0 (.int .i64 1) rfl
    · exact hc 5 (.string ⟨#[60, 61]⟩) rfl
    · exact hc 9 (.string ⟨#[105, 116, 39, 115]⟩) rfl
    · exact hc 11 (.int .i64 3) rfl
  clear h hR
  go_enter Tryd.func7, Tryd.ntmps7
  go_wp2_with (first | (go_at_call 8; refine h'.mono ?_; rintro e w2 ⟨g, c, rfl, hB, c0, c1, c2, c3⟩) | (go_at_call 9; refine (num_any _ _).mono ?_; rintro e w3 ⟨rfl, rfl⟩))
  go_ret
  exact ⟨rfl, by assumption⟩
end Go.Proofs.YtcliineiokgenaaDoor
