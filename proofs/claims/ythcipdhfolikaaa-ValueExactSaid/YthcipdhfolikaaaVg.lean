/- What decide, And and Or of package value answer for any values: the walks. Conditions: none. -/
import Derived.Test.YthcipdhfolikaaaVf
import Derived.RegionTactic
import Derived.Deep.RegionHeld3
import Derived.Deep.RegionWith
namespace Go.Proofs.Ythcipdhfolikaaa
open Go.RowKit
set_option linter.unusedSimpArgs false
set_option linter.unusedVariables false

theorem empty_of_isEmpty {s : ByteArray} (h : s.toList.isEmpty = true) : s = ⟨#[]⟩ := by
  rw [ByteArray.toList_eq] at h
  obtain ⟨⟨l⟩⟩ := s
  simp at h
  subst h; rfl

/-- The three truths. -/
theorem fit2_cases {k n : Int} {s : ByteArray} (h : fitB 2 k n s = true) : s = ⟨#[]⟩ ∧ ((k = 0 ∧ n = 0) ∨ (k = 2 ∧ n = 0) ∨ (k = 2 ∧ n = 1)) := by
  have h1 : s.toList.isEmpty = true := by grind [fitB, mayB]
  exact ⟨empty_of_isEmpty h1, by grind [fitB, mayB]⟩

set_option maxHeartbeats 400000 in
theorem decide_bad (d : Bool) (k n : Int) (s : ByteArray) (k' n' : Int) (s' : ByteArray) (w : World) (h : (fitB 2 k n s && fitB 2 k' n' s') = false) :
    Calls Try.prog 38 #[.bool d, .agg #[.int .i64 k, .int .i64 n, .string s], .agg #[.int .i64 k', .int .i64 n', .string s']] w fun e w' => e = .returned (.tuple #[.agg #[.int .i64 0, .int .i64 0, .string ⟨#[]⟩], .int .i64 81]) ∧ Below w.heap.size w w' := by
  go_enter Try.func38, Try.ntmps38
  go_wp2_with (first | (go_at_call 26; refine (fit2_last _ _ _ _ _ _ _ _ _ (by simp)).mono ?_; rintro e w1 ⟨rfl, hb⟩; obtain ⟨hc, hf⟩ := bcell hb; have z1 := hb.size; simp only [World.size_alloc] at z1))
  exact bodyPost_ret (v := .tuple #[.agg #[.int .i64 0, .int .i64 0, .string ⟨#[]⟩], .int .i64 81]) (by simp [results, Try.results38, go_sem, hc]) rfl ⟨rfl, by repeat (first | exact Below.refl _ _ | (refine Below.setCell ?_ (by first | omega | (simp; done) | (simp; omega)) _) | (refine Below.alloc ?_ (by first | omega | (simp; done) | (simp; omega)) _) | (refine below_drewN ?_ _) | (refine Below.drew ?_) | (refine below_call hb5 (by first | omega | (simp; done) | (simp; omega)) ?_) | (refine below_call hb4 (by first | omega | (simp; done) | (simp; omega)) ?_) | (refine below_call hb3 (by first | omega | (simp; done) | (simp; omega)) ?_) | (refine below_call hb2 (by first | omega | (simp; done) | (simp; omega)) ?_) | (refine below_call hb (by first | omega | (simp; done) | (simp; omega)) ?_))⟩

end Go.Proofs.Ythcipdhfolikaaa
