/- What slices.IndexFunc of package eval's calls answers, where the test is whether a value is NULL: the walk. Conditions: lengths that every machine keeps. -/
import Derived.Test.YtjogpcffldkhlaaEb
namespace Go.Proofs.Ytjogpcffldkhlaa
open Go.RowKit
set_option linter.unusedSimpArgs false
set_option linter.unusedVariables false

/-- The first place of a NULL, or -1. -/
def FirstNull (l : List Vl) (r : Int) : Prop := (r = -1 ∧ ∀ v ∈ l, v.k ≠ 0) ∨ ∃ j : Nat, ∃ h : j < l.length, r = j ∧ l[j].k = 0 ∧ ∀ v ∈ l.take j, v.k ≠ 0

theorem take_no {l : List Vl} {j : Nat} (h : j < l.length) (h1 : ∀ v ∈ l.take j, v.k ≠ 0) (h2 : l[j].k ≠ 0) : ∀ v ∈ l.take (j + 1), v.k ≠ 0 := by
  rw [List.take_succ_eq_append_getElem h]
  intro v hv
  rcases List.mem_append.1 hv with hv | hv
  · exact h1 v hv
  · simp at hv; subst hv; exact h2

theorem index_nil (A : Option Addr) (c : Nat) (w : World) (F : Value) :
    Calls Try.prog 28 #[.slice A 0 c, F] w fun e w' => e = .returned (.int .i64 (-1)) ∧ w = w' := by
  go_enter Try.func28, Try.ntmps28
  go_wp2
  refine wp_loop_rounds 1 ?_
  rw [rounds_succ]
  go_wp2
  go_ret
  exact ⟨rfl, rfl⟩

set_option maxHeartbeats 2000000 in
theorem index_any (ad : Addr) (n c : Nat) (l : List Vl) (w : World) (hl : n = l.length) (hr : RdL w (some ad) l) (hn : n ≤ 9223372036854775807) :
    Calls Try.prog 28 #[.slice (some ad) n c, .func (.func 16) #[] #[]] w fun e w' => ∃ r : Int, e = .returned (.int .i64 r) ∧ FirstNull l r ∧ Below w.heap.size w w' := by
  have HR := Lib.hid hr
  subst hl
  clear hr
  go_enter Try.func28, Try.ntmps28
  go_wp2
  go_loopw [5, 8] (fun _ i wr => ∃ j : Nat, j ≤ l.length ∧ i = .int .i64 j ∧ (∀ v ∈ l.take j, v.k ≠ 0) ∧ Below w.heap.size w wr) (fun _ i _ => l.length - (intOf i).toNat)
  case atStart => exact ⟨0, by omega, rfl, by simp, Below.refl _ _⟩
  case round =>
    obtain ⟨j, hj, rfl, hno, hB⟩ := hrel
    have HB := Lib.hid hB
    have HN := Lib.hid hno
    clear hB hno
    by_cases hlt : j < l.length
    · obtain ⟨ad', e0, hc⟩ := (HR.out.below HB.out).at_ hlt
      injection e0 with e0
      subst e0
      obtain ⟨c0, c1, c2⟩ := hc
      have hb0 := cell_lt c0
      rw [add_block] at hb0
      by_cases hk : l[j].k = 0
      · go_wp2_with (go_at_call 16; refine (isNull_any _ _ _ _).mono ?_; rintro e w2 ⟨rfl, hb⟩)
        go_ret
        exact ⟨_, rfl, .inr ⟨j, hlt, rfl, hk, HN.out⟩, HB.out.trans (hb.mono HB.out.size)⟩
      · go_wp2_with (go_at_call 16; refine (isNull_any _ _ _ _).mono ?_; rintro e w2 ⟨rfl, hb⟩)
        go_roundw
        case rel => exact ⟨j + 1, hlt, by go_num, take_no hlt HN.out hk, HB.out.trans (hb.mono HB.out.size)⟩
        case measure => simp [intOf]; omega
    · go_wp2
      go_ret
      have e : j = l.length := by omega
      subst e
      exact ⟨_, rfl, .inl ⟨rfl, by have := HN.out; simpa using this⟩, HB.out⟩

end Go.Proofs.Ytjogpcffldkhlaa
