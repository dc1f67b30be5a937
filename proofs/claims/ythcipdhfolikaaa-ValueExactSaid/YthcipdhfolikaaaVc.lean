/- What the two Compares of package value and of the reference answer for any values: the walks. Conditions: none. -/
import Derived.Test.YthcipdhfolikaaaVb
namespace Go.Proofs.Ythcipdhfolikaaa
open Go.RowKit
set_option linter.unusedSimpArgs false
set_option linter.unusedVariables false

/-- What Compare answers: the order, whether it is known, the error. -/
def cmpOk (k n : Int) (s : ByteArray) (k' n' : Int) (s' : ByteArray) : Bool := mayB k n s && mayB k' n' s' && (decide (k = 0) || decide (k' = 0) || decide (k = k'))
def cmpKnown (k n : Int) (s : ByteArray) (k' n' : Int) (s' : ByteArray) : Bool := cmpOk k n s k' n' s' && !(decide (k = 0)) && !(decide (k' = 0))
def cmpC (k n : Int) (s : ByteArray) (k' n' : Int) (s' : ByteArray) : Int := if cmpKnown k n s k' n' s' = true then ordV k n s k' n' s' else 0
def cmpE (k n : Int) (s : ByteArray) (k' n' : Int) (s' : ByteArray) : Int := if cmpOk k n s k' n' s' = true then 0 else 81
theorem ret_cmp {a a' : Int} {b b' : Bool} {c c' : Int} (h1 : a = a') (h2 : b = b') (h3 : c = c') : Ending.returned (.tuple #[.int .i64 a, .bool b, .int .i64 c]) = .returned (.tuple #[.int .i64 a', .bool b', .int .i64 c']) := by rw [h1, h2, h3]

theorem mayB_range {k n : Int} {s : ByteArray} (h : mayB k n s = true) : 0 ≤ k ∧ k ≤ 3 := by grind [mayB]
theorem below2 (w : World) (o o' : Obj) : Below w.heap.size w ((w.alloc o).alloc o') := (below1 _ _).alloc (by simp) _

set_option maxHeartbeats 400000 in
theorem compare_any (k n : Int) (s : ByteArray) (k' n' : Int) (s' : ByteArray) (w : World) :
    Calls Try.prog 10 #[.agg #[.int .i64 k, .int .i64 n, .string s], .agg #[.int .i64 k', .int .i64 n', .string s']] w fun e w' => e = .returned (.tuple #[.int .i64 (cmpC k n s k' n' s'), .bool (cmpKnown k n s k' n' s'), .int .i64 (cmpE k n s k' n' s')]) ∧ Below w.heap.size w w' := by
  go_enter Try.func10, Try.ntmps10
  go_wp2_with (first | (go_at_call 26; refine (fit2_last _ _ _ _ _ _ _ _ _ (by simp)).mono ?_; rintro e w1 ⟨rfl, hb⟩; obtain ⟨hc, hf⟩ := bcell hb; have z1 := hb.size; simp only [World.size_alloc] at z1) | (go_at_call 27; refine (null2_last _ _ _ _ _ _ _ _ rfl).mono ?_; rintro e w2 ⟨rfl, hb2⟩; obtain ⟨hc2, hf2⟩ := bcell hb2; have q0 := fun o => hc2 w.heap.size o (by omega); have q1 := fun o => hc2 (w.heap.size + 1) o (by omega); clear hc2 hf2; have z2 := hb2.size) | (go_at_call 15; refine (order_any _ _ _ _ _ _ _).mono ?_; rintro e w3 ⟨rfl, hb3⟩))
  all_goals go_ret3
  all_goals (clear hc hf; try clear q0 q1)
  all_goals have R1 := fun h => @mayB_range k n s h
  all_goals have R2 := fun h => @mayB_range k' n' s' h
  all_goals refine ⟨ret_cmp (by grind [fitB, cmpC, cmpKnown, cmpOk, cmpE]) (by grind [fitB, cmpKnown, cmpOk]) (by grind [fitB, cmpOk, cmpE]), ?_⟩
  all_goals repeat (first | exact Below.refl _ _ | exact below2 _ _ _ | (refine below_call hb3 (by first | omega | (simp; done) | (simp; omega)) ?_) | (refine below_call hb2 (by first | omega | (simp; done) | (simp; omega)) ?_) | (refine below_call hb (by first | omega | (simp; done) | (simp; omega)) ?_))

set_option maxHeartbeats 400000 in
theorem rCompare_any (k n : Int) (s : ByteArray) (k' n' : Int) (s' : ByteArray) (w : World) :
    Calls Try.prog 11 #[.agg #[.int .i64 k, .int .i64 n, .string s], .agg #[.int .i64 k', .int .i64 n', .string s']] w fun e w' => e = .returned (.tuple #[.int .i64 (cmpC k n s k' n' s'), .bool (cmpKnown k n s k' n' s'), .int .i64 (cmpE k n s k' n' s')]) ∧ Below w.heap.size w w' := by
  go_enter Try.func11, Try.ntmps11
  go_wp2_with fail
  refine (rCheck_any _ _ _ _).mono ?_
  rintro e w1 ⟨rfl, hb⟩
  obtain ⟨hc, hf⟩ := bcell hb
  have z1 := hb.size
  simp only [World.size_alloc] at z1
  go_wp2_with (first | (go_at_call 14; refine (rCheck_any _ _ _ _).mono ?_; rintro e w2 ⟨rfl, hb2⟩; obtain ⟨hc2, hf2⟩ := bcell hb2; have q0 := fun o => hc2 w.heap.size o (by omega); have q1 := fun o => hc2 (w.heap.size + 1) o (by omega); clear hc2 hf2; have z2 := hb2.size) | (go_at_call 16; refine (rOrder_any _ _ _ _ _ _ _).mono ?_; rintro e w3 ⟨rfl, hb3⟩))
  all_goals go_ret3
  all_goals clear hc hf
  all_goals refine ⟨ret_cmp (by grind [checkN, cmpC, cmpKnown, cmpOk]) (by grind [checkN, cmpKnown, cmpOk]) (by grind [checkN, cmpOk, cmpE]), ?_⟩
  all_goals repeat (first | exact Below.refl _ _ | exact below2 _ _ _ | (refine below_call hb3 (by first | omega | (simp; done) | (simp; omega)) ?_) | (refine below_call hb2 (by first | omega | (simp; done) | (simp; omega)) ?_) | (refine below_call hb (by first | omega | (simp; done) | (simp; omega)) ?_))

end Go.Proofs.Ythcipdhfolikaaa
