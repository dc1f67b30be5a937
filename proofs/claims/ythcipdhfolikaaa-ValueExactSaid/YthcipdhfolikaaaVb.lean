/- What fit, anyNull and the two Compares of package value and of the reference answer for any values: the walks. Conditions: none. -/
import Derived.Test.YthcipdhfolikaaaVa
namespace Go.Proofs.Ythcipdhfolikaaa
open Go.RowKit
set_option linter.unusedSimpArgs false
set_option linter.unusedVariables false

def fitB (kind k n : Int) (s : ByteArray) : Bool := mayB k n s && (decide (k = 0) || decide (k = kind))

set_option maxHeartbeats 400000 in
theorem fit2_any (kind k n : Int) (s : ByteArray) (k' n' : Int) (s' : ByteArray) (b : Nat) (w : World) (hb0 : b < w.heap.size)
    (c0 : w.cell? ⟨b, 0, none⟩ = some (.int .i64 k)) (c1 : w.cell? ⟨b, 1, none⟩ = some (.int .i64 n)) (c2 : w.cell? ⟨b, 2, none⟩ = some (.string s))
    (c3 : w.cell? ⟨b, 3, none⟩ = some (.int .i64 k')) (c4 : w.cell? ⟨b, 4, none⟩ = some (.int .i64 n')) (c5 : w.cell? ⟨b, 5, none⟩ = some (.string s')) :
    Calls Try.prog 26 #[.int .i64 kind, .slice (some ⟨b, 0, none⟩) 2 2] w fun e w' => e = .returned (.bool (fitB kind k n s && fitB kind k' n' s')) ∧ Below w.heap.size w w' := by
  go_enter Try.func26, Try.ntmps26
  go_wp2
  refine wp_loop_rounds 3 ?_
  rw [rounds_succ]
  go_wp2_with (go_at_call 28; refine (mayBe_any _ _ _ _).mono ?_; rintro e w1 ⟨rfl, hb⟩; obtain ⟨hc, hf⟩ := bcell hb; have z1 := hb.size; simp only [World.size_alloc] at z1)
  any_goals (rw [rounds_succ]; go_wp2_with (go_at_call 28; refine (mayBe_any _ _ _ _).mono ?_; rintro e w2 ⟨rfl, hb2⟩; obtain ⟨hc2, hf2⟩ := bcell hb2; have z2 := hb2.size; simp only [World.size_alloc] at z2))
  any_goals (rw [rounds_succ]; go_wp2)
  all_goals go_ret
  all_goals refine ⟨ret_bool (by grind [fitB]), ?_⟩
  all_goals (clear hc hf; try clear hc2 hf2)
  all_goals repeat (first | exact Below.refl _ _ | (refine Below.alloc ?_ (by first | omega | (simp; done) | (simp; omega)) _) | (refine below_call hb2 (by first | omega | (simp; done) | (simp; omega)) ?_) | (refine below_call hb (by first | omega | (simp; done) | (simp; omega)) ?_))

set_option maxHeartbeats 400000 in
theorem fit1_any (kind k n : Int) (s : ByteArray) (b : Nat) (w : World) (hb0 : b < w.heap.size)
    (c0 : w.cell? ⟨b, 0, none⟩ = some (.int .i64 k)) (c1 : w.cell? ⟨b, 1, none⟩ = some (.int .i64 n)) (c2 : w.cell? ⟨b, 2, none⟩ = some (.string s)) :
    Calls Try.prog 26 #[.int .i64 kind, .slice (some ⟨b, 0, none⟩) 1 1] w fun e w' => e = .returned (.bool (fitB kind k n s)) ∧ Below w.heap.size w w' := by
  go_enter Try.func26, Try.ntmps26
  go_wp2
  refine wp_loop_rounds 2 ?_
  rw [rounds_succ]
  go_wp2_with (go_at_call 28; refine (mayBe_any _ _ _ _).mono ?_; rintro e w1 ⟨rfl, hb⟩; obtain ⟨hc, hf⟩ := bcell hb; have z1 := hb.size; simp only [World.size_alloc] at z1)
  any_goals (rw [rounds_succ]; go_wp2)
  all_goals go_ret
  all_goals refine ⟨ret_bool (by grind [fitB]), ?_⟩
  all_goals clear hc hf
  all_goals repeat (first | exact Below.refl _ _ | (refine Below.alloc ?_ (by first | omega | (simp; done) | (simp; omega)) _) | (refine below_call hb (by first | omega | (simp; done) | (simp; omega)) ?_))

set_option maxHeartbeats 400000 in
theorem null2_any (k n : Int) (s : ByteArray) (k' n' : Int) (s' : ByteArray) (b : Nat) (w : World) (hb0 : b < w.heap.size)
    (c0 : w.cell? ⟨b, 0, none⟩ = some (.int .i64 k)) (c1 : w.cell? ⟨b, 1, none⟩ = some (.int .i64 n)) (c2 : w.cell? ⟨b, 2, none⟩ = some (.string s))
    (c3 : w.cell? ⟨b, 3, none⟩ = some (.int .i64 k')) (c4 : w.cell? ⟨b, 4, none⟩ = some (.int .i64 n')) (c5 : w.cell? ⟨b, 5, none⟩ = some (.string s')) :
    Calls Try.prog 27 #[.slice (some ⟨b, 0, none⟩) 2 2] w fun e w' => e = .returned (.bool (decide (k = 0) || decide (k' = 0))) ∧ Below w.heap.size w w' := by
  go_enter Try.func27, Try.ntmps27
  go_wp2
  refine wp_loop_rounds 3 ?_
  rw [rounds_succ]
  go_wp2
  any_goals (rw [rounds_succ]; go_wp2)
  any_goals (rw [rounds_succ]; go_wp2)
  all_goals go_ret
  all_goals refine ⟨ret_bool (by grind), ?_⟩
  all_goals repeat (first | exact Below.refl _ _ | (refine Below.alloc ?_ (by first | omega | (simp; done) | (simp; omega)) _))

set_option maxHeartbeats 400000 in
theorem null1_any (k n : Int) (s : ByteArray) (b : Nat) (w : World) (hb0 : b < w.heap.size)
    (c0 : w.cell? ⟨b, 0, none⟩ = some (.int .i64 k)) (c1 : w.cell? ⟨b, 1, none⟩ = some (.int .i64 n)) (c2 : w.cell? ⟨b, 2, none⟩ = some (.string s)) :
    Calls Try.prog 27 #[.slice (some ⟨b, 0, none⟩) 1 1] w fun e w' => e = .returned (.bool (decide (k = 0))) ∧ Below w.heap.size w w' := by
  go_enter Try.func27, Try.ntmps27
  go_wp2
  refine wp_loop_rounds 2 ?_
  rw [rounds_succ]
  go_wp2
  any_goals (rw [rounds_succ]; go_wp2)
  all_goals go_ret
  all_goals refine ⟨ret_bool (by grind), ?_⟩
  all_goals repeat (first | exact Below.refl _ _ | (refine Below.alloc ?_ (by first | omega | (simp; done) | (simp; omega)) _))

theorem cell_last (W : World) (cs : Array Value) (t g o : Nat) (hg : g = W.heap.size) : (W.alloc (.cells cs t)).cell? ⟨g, o, none⟩ = cs[o]? := by
  subst hg; exact World.cell?_alloc_mark W cs t (0, 0) o
theorem fit2_last (kind k n : Int) (s : ByteArray) (k' n' : Int) (s' : ByteArray) (g : Nat) (W : World) (hg : g = W.heap.size) :
    Calls Try.prog 26 #[.int .i64 kind, .slice (some ⟨g, 0, none⟩) 2 2] (W.alloc (.cells #[.int .i64 k, .int .i64 n, .string s, .int .i64 k', .int .i64 n', .string s'] 23)) fun e w' => e = .returned (.bool (fitB kind k n s && fitB kind k' n' s')) ∧ Below W.heap.size W w' :=
  (fit2_any _ _ _ _ _ _ _ g _ (by simp; omega) (cell_last _ _ _ _ _ hg) (cell_last _ _ _ _ _ hg) (cell_last _ _ _ _ _ hg) (cell_last _ _ _ _ _ hg) (cell_last _ _ _ _ _ hg) (cell_last _ _ _ _ _ hg)).mono fun e w' ⟨h1, h2⟩ => ⟨h1, (below1 _ _).trans (h2.mono (by simp))⟩
theorem fit1_last (kind k n : Int) (s : ByteArray) (g : Nat) (W : World) (hg : g = W.heap.size) :
    Calls Try.prog 26 #[.int .i64 kind, .slice (some ⟨g, 0, none⟩) 1 1] (W.alloc (.cells #[.int .i64 k, .int .i64 n, .string s] 23)) fun e w' => e = .returned (.bool (fitB kind k n s)) ∧ Below W.heap.size W w' :=
  (fit1_any _ _ _ _ g _ (by simp; omega) (cell_last _ _ _ _ _ hg) (cell_last _ _ _ _ _ hg) (cell_last _ _ _ _ _ hg)).mono fun e w' ⟨h1, h2⟩ => ⟨h1, (below1 _ _).trans (h2.mono (by simp))⟩
theorem null2_last (k n : Int) (s : ByteArray) (k' n' : Int) (s' : ByteArray) (g : Nat) (W : World) (hg : g = W.heap.size) :
    Calls Try.prog 27 #[.slice (some ⟨g, 0, none⟩) 2 2] (W.alloc (.cells #[.int .i64 k, .int .i64 n, .string s, .int .i64 k', .int .i64 n', .string s'] 23)) fun e w' => e = .returned (.bool (decide (k = 0) || decide (k' = 0))) ∧ Below W.heap.size W w' :=
  (null2_any _ _ _ _ _ _ g _ (by simp; omega) (cell_last _ _ _ _ _ hg) (cell_last _ _ _ _ _ hg) (cell_last _ _ _ _ _ hg) (cell_last _ _ _ _ _ hg) (cell_last _ _ _ _ _ hg) (cell_last _ _ _ _ _ hg)).mono fun e w' ⟨h1, h2⟩ => ⟨h1, (below1 _ _).trans (h2.mono (by simp))⟩
theorem null1_last (k n : Int) (s : ByteArray) (g : Nat) (W : World) (hg : g = W.heap.size) :
    Calls Try.prog 27 #[.slice (some ⟨g, 0, none⟩) 1 1] (W.alloc (.cells #[.int .i64 k, .int .i64 n, .string s] 23)) fun e w' => e = .returned (.bool (decide (k = 0))) ∧ Below W.heap.size W w' :=
  (null1_any _ _ _ g _ (by simp; omega) (cell_last _ _ _ _ _ hg) (cell_last _ _ _ _ _ hg) (cell_last _ _ _ _ _ hg)).mono fun e w' ⟨h1, h2⟩ => ⟨h1, (below1 _ _).trans (h2.mono (by simp))⟩

end Go.Proofs.Ythcipdhfolikaaa
