/- What same answers for two lists of the same tokens: the walk. Conditions: lists that are read below the call's own blocks. -/
import Derived.Test.YtcliineiokgenaaDoorVr
import Derived.Test.YtcliineiokgenaaDoorWb
namespace Go.Proofs.YtcliineiokgenaaDoor
open Go.RowKit
set_option linter.unusedSimpArgs false
set_option linter.unusedVariables false

set_option maxHeartbeats 2000000 in
theorem same_any (A B : Option Addr) (c d : Nat) (l : List Tok) (w : World) (hl : l.length ≤ 400) (ra : RdT w w.heap.size A l) (rb : RdT w w.heap.size B l) :
    Calls Tryd.prog 11 #[.slice A l.length c, .slice B l.length d] w fun e w' => e = .returned (.bool true) ∧ Below w.heap.size w w' := by
  have RA := Lib.hid ra
  have RB := Lib.hid rb
  clear ra rb
  have hg := guard30
  go_enter Tryd.func11, Tryd.ntmps11
  go_wp2_with fail
  go_loopw [5] (fun i wr => ∃ j : Nat, j ≤ l.length ∧ i = .int .i64 j ∧ Below w.heap.size w wr) (fun i _ => l.length - (intOf i).toNat)
  case atStart => exact ⟨0, Nat.zero_le _, rfl, Below.refl _ _⟩
  case round =>
    obtain ⟨j, hj, rfl, hB⟩ := hrel
    have HB := Lib.hid hB
    clear hB
    rcases Nat.lt_or_ge j l.length with hlt | hge
    · obtain ⟨ad, rfl, hb, k0, k1, k2, k3⟩ := (RA.out.below HB.out).at_ (j := j) hlt
      obtain ⟨bd, rfl, hb', q0, q1, q2, q3⟩ := (RB.out.below HB.out).at_ (j := j) hlt
      generalize l[j] = t at k0 k1 k2 k3 q0 q1 q2 q3
      have hneq := run_same30 t.k t.n t.at_ ⟨t.t.toArray⟩
      go_wp2_with fail
      go_big_quiet (fail)
      go_wp2_with fail
      go_roundw
      case rel => exact ⟨j + 1, hlt, by go_num, below_drewN HB.out _⟩
      case measure => simp [intOf]; omega
    · go_wp2_with fail
      go_ret
      exact ⟨rfl, HB.out⟩
end Go.Proofs.YtcliineiokgenaaDoor
