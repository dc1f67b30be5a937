/- How many octets a number needs, as bits.Len64 and needed tell it: the walks. Conditions: numbers of 64 bits. -/
import Derived.Test.YtapichngakcpeaaProg
import Derived.Lib.BitFns
import Derived.Lib.Walk
import Derived.Lib.Small
import Derived.Lib.Strings
import Derived.Lib.Slices
namespace Go.Proofs.Ytapichngakcpeaa
set_option linter.unusedSimpArgs false
set_option linter.unusedVariables false

theorem len_k (x y : Int) (k : Nat) (hx : x.toNat < 2 ^ 64) (hk : k ≤ 56) (h0 : 0 ≤ y) (h1 : y ≤ 255) (hy : y.toNat = x.toNat / 2 ^ k) (h : 2 ^ k ≤ x.toNat) :
    ((k : Int) + ((Lib.len8 y + 9223372036854775808) % 18446744073709551616 - 9223372036854775808) + 9223372036854775808) % 18446744073709551616 - 9223372036854775808 = (Lib.bitLen x.toNat : Int) := by
  have e := Lib.bitLen_le8' y h0 h1
  rw [Lib.len8_of y h0 h1, Lib.bitLen_shift k x.toNat h hx, ← hy]
  omega
theorem len_0 (x y : Int) (h0 : 0 ≤ y) (h1 : y ≤ 255) (hy : y.toNat = x.toNat) :
    (((Lib.len8 y + 9223372036854775808) % 18446744073709551616 - 9223372036854775808) + 9223372036854775808) % 18446744073709551616 - 9223372036854775808 = (Lib.bitLen x.toNat : Int) := by
  have e := Lib.bitLen_le8' y h0 h1
  rw [Lib.len8_of y h0 h1, ← hy]
  omega

set_option maxHeartbeats 4000000 in
set_option maxRecDepth 100000 in
theorem len64_any (x : Int) (w : World) (h0 : 0 ≤ x) (h1 : x ≤ 18446744073709551615) :
    Calls Try.prog 35 #[.int .u64 x] w fun e w' => e = .returned (.int .i64 (Lib.bitLen x.toNat)) ∧ w = w' := by
  go_enter Try.func35, Try.ntmps35
  go_wp2
  all_goals go_ret
  all_goals refine ⟨congrArg Ending.returned (congrArg (Value.int IntKind.i64) ?_), rfl⟩
  · exact len_k x _ 56 (by omega) (by omega) (by omega) (by omega) (by omega) (by omega)
  · exact len_k x _ 48 (by omega) (by omega) (by omega) (by omega) (by omega) (by omega)
  · exact len_k x _ 40 (by omega) (by omega) (by omega) (by omega) (by omega) (by omega)
  · exact len_k x _ 32 (by omega) (by omega) (by omega) (by omega) (by omega) (by omega)
  · exact len_k x _ 24 (by omega) (by omega) (by omega) (by omega) (by omega) (by omega)
  · exact len_k x _ 16 (by omega) (by omega) (by omega) (by omega) (by omega) (by omega)
  · exact len_k x _ 8 (by omega) (by omega) (by omega) (by omega) (by omega) (by omega)
  · have h := len_0 x (x % 256) (by omega) (by omega) (by omega)
    omega

end Go.Proofs.Ytapichngakcpeaa
