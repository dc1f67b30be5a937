/- What the reader's value answers at any octet; what Decode's deferred function does: the walks. Conditions: a reader in a block of its own, at an octet. -/
import Derived.Test.YtapichngakcpeaaDd
import Derived.Test.YtapichngakcpeaaVh
namespace Go.Proofs.Ytapichngakcpeaa
open Go.RowKit
set_option linter.unusedSimpArgs false
set_option linter.unusedVariables false

theorem value_any (g : Nat) (s : ByteArray) (j : Nat) (w : World) (h : Rdr w g s j) (hj : j < s.size) (hs : s.size ≤ maxLen) :
    Calls Try.prog 20 #[.pointer (some ⟨g, 0, none⟩)] w (ValPost (valD (s.data.toList.drop j)) g s w) := by
  have hlt := s[j].toNat_lt
  by_cases h4 : s[j].toNat = 4
  · exact value_4 g s j w h hj hs (UInt8.toNat_inj.1 h4)
  by_cases hb : 55 ≤ s[j].toNat ∧ s[j].toNat ≤ 63
  · exact value_below g s j w h hj hs (63 - s[j].toNat) (by omega) (by omega)
  by_cases hf : 64 ≤ s[j].toNat ∧ s[j].toNat ≤ 72
  · exact value_from g s j w h hj hs (s[j].toNat - 64) (by omega) (by omega)
  by_cases ht : s[j].toNat = 80 ∨ s[j].toNat = 81
  · exact value_truth g s j w h hj hs ((s[j].toNat : Int) - 80) (by omega) (by omega) (by omega)
  by_cases hx : s[j].toNat = 96
  · exact value_text g s j w h hj hs (UInt8.toNat_inj.1 hx)
  · refine value_none g s j w h hj hs (s[j].toNat : Int) rfl (by omega) (by omega) ?_ ?_ ?_ ?_ ?_
    · simp; omega
    · simp; omega
    · simp; omega
    · simp; omega
    · omega

theorem catch_idle (p q : Addr) (w : World) :
    CallsD Try.prog 19 #[.pointer (some p), .pointer (some q)] .returning w fun e u' w' => e = .returned (.tuple #[]) ∧ u' = .returning ∧ w' = w := by
  refine callsD_of_wpS Try.func19 rfl fun c₀ cs hu => ?_
  apply wpS_seq
  apply wpS_region
  simp [wpOpsS, go_sem, recoverD, hu, Try.ntmps19, Exit.thenS]
  apply wpS_seq
  apply wpS_region
  simp [wpOpsS, go_sem, recoverD, hu, Try.ntmps19, Exit.thenS, Array.replicate]
  refine wpS_cond (t := false) (by simp [Act.eval, Array.replicate]) ?_
  simp only [Bool.false_eq_true, if_false]
  refine wpS_of_wp (wp_skip ?_)
  cases c₀
  simp_all [bodyPostS, results, Try.results19]

theorem assert24 (x : Int) (w : World) : (Instr.typeAssert (.iface 24 (.int .i64 x)) 20 24 false).run Try.prog w = .ok (.int .i64 x) w := by kernel_rfl

theorem catch_dies (b : Nat) (x : Int) (older : List PanicEntry) (w : World) (v : Value) (y : Int) (h0 : w.cell? ⟨b, 0, none⟩ = some v) (f0 : w.frozen? ⟨b, 0, none⟩ = false) (h1 : w.cell? ⟨b + 1, 0, none⟩ = some (.int .i64 y)) (f1 : w.frozen? ⟨b + 1, 0, none⟩ = false) :
    CallsD Try.prog 19 #[.pointer (some ⟨b, 0, none⟩), .pointer (some ⟨b + 1, 0, none⟩)] (.panicking ({ v := .iface 24 (.int .i64 x), recovered := false } :: older)) w fun e u' w' =>
      e = .returned (.tuple #[]) ∧ u' = .panicking ({ v := .iface 24 (.int .i64 x), recovered := true } :: older) ∧ w' = ((w.setCell ⟨b, 0, none⟩ (.slice none 0 0)).setCell ⟨b + 1, 0, none⟩ (.int .i64 x)).drew := by
  have hta := assert24 x
  refine callsD_of_wpS Try.func19 rfl fun c₀ cs hu => ?_
  apply wpS_seq
  apply wpS_region
  simp [wpOpsS, go_sem, recoverD, hu, Try.ntmps19, Exit.thenS]
  apply wpS_seq
  apply wpS_region
  simp [wpOpsS, go_sem, recoverD, hu, Try.ntmps19, Exit.thenS, Array.replicate]
  refine wpS_cond (t := true) (by simp [Act.eval, Array.replicate]) ?_
  simp only [if_true]
  refine wpS_of_wp ?_
  go_region
  simp [bodyPostS, results, Try.results19]

end Go.Proofs.Ytapichngakcpeaa
