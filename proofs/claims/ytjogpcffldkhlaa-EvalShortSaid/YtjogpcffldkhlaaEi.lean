/- EvalShort of the statements' package answers true for any expression and any row: the walk. Conditions: none. -/
import Derived.Test.YtjogpcffldkhlaaEh
namespace Go.Proofs.Ytjogpcffldkhlaa
open Go.RowKit Go.Sort
set_option linter.unusedSimpArgs false
set_option linter.unusedVariables false

theorem box_one {w w1 : World} {cs : Array Value} {t : TypeId} (hb : Below (w.alloc (.cells cs t)).heap.size (w.alloc (.cells cs t)) w1) (j : Nat) (v : Value) (h : cs[j]? = some v) : w1.cell? ⟨w.heap.size, j, none⟩ = some v := by
  rw [hb.cell (p := ⟨w.heap.size, j, none⟩) (by simp), cell_last _ _ _ _ _ rfl]
  exact h
theorem keep7 {g : Nat} {W W' : World} {a0 a1 a2 a3 a4 a5 a6 : Value} (hb : Below W.heap.size W W') (hg : g < W.heap.size) (h : W.cell? ⟨g, 0, none⟩ = some a0 ∧ W.cell? ⟨g, 1, none⟩ = some a1 ∧ W.cell? ⟨g, 2, none⟩ = some a2 ∧ W.cell? ⟨g, 3, none⟩ = some a3 ∧ W.cell? ⟨g, 4, none⟩ = some a4 ∧ W.cell? ⟨g, 5, none⟩ = some a5 ∧ W.cell? ⟨g, 6, none⟩ = some a6) :
    W'.cell? ⟨g, 0, none⟩ = some a0 ∧ W'.cell? ⟨g, 1, none⟩ = some a1 ∧ W'.cell? ⟨g, 2, none⟩ = some a2 ∧ W'.cell? ⟨g, 3, none⟩ = some a3 ∧ W'.cell? ⟨g, 4, none⟩ = some a4 ∧ W'.cell? ⟨g, 5, none⟩ = some a5 ∧ W'.cell? ⟨g, 6, none⟩ = some a6 := by
  obtain ⟨h0, h1, h2, h3, h4, h5, h6⟩ := h
  exact ⟨(hb.cell (p := ⟨g, 0, none⟩) hg).trans h0, (hb.cell (p := ⟨g, 1, none⟩) hg).trans h1, (hb.cell (p := ⟨g, 2, none⟩) hg).trans h2, (hb.cell (p := ⟨g, 3, none⟩) hg).trans h3, (hb.cell (p := ⟨g, 4, none⟩) hg).trans h4, (hb.cell (p := ⟨g, 5, none⟩) hg).trans h5, (hb.cell (p := ⟨g, 6, none⟩) hg).trans h6⟩

set_option maxHeartbeats 4000000 in
theorem kShort_any (o k n : Int) (s t m : ByteArray) (A : Option Addr) (an ac : Nat) (rA : Option Addr) (rn rc : Nat) (w : World) :
    Calls Try.prog 3 #[.agg #[.int .i64 o, .int .i64 k, .int .i64 n, .string s, .string t, .string m, .slice A an ac], .slice rA rn rc] w fun e w' => e = .returned (.bool true) ∧ Below w.heap.size w w' := by
  go_enter Try.func3, Try.ntmps3
  go_upto_region 3 with (go_at_call 5; refine (alive_any _).mono ?_; rintro e w1 ⟨rfl, hb1⟩; have x0 := box_one hb1 0 _ rfl; have x1 := box_one hb1 1 _ rfl; have x2 := box_one hb1 2 _ rfl; have x3 := box_one hb1 3 _ rfl; have x4 := box_one hb1 4 _ rfl; have x5 := box_one hb1 5 _ rfl; have x6 := box_one hb1 6 _ rfl; have hz := hb1.size; simp only [World.size_alloc] at hz; have hz1 : w.heap.size < w1.heap.size := hz; have HA := Lib.hid ((below1 _ _).trans (hb1.mono (by simp))); clear hb1 hz)
  have X : w1.cell? ⟨w.heap.size, 0, none⟩ = some (.int .i64 o) ∧ w1.cell? ⟨w.heap.size, 1, none⟩ = some (.int .i64 k) ∧ w1.cell? ⟨w.heap.size, 2, none⟩ = some (.int .i64 n) ∧ w1.cell? ⟨w.heap.size, 3, none⟩ = some (.string s) ∧ w1.cell? ⟨w.heap.size, 4, none⟩ = some (.string t) ∧ w1.cell? ⟨w.heap.size, 5, none⟩ = some (.string m) ∧ w1.cell? ⟨w.heap.size, 6, none⟩ = some (.slice A an ac) := ⟨x0, x1, x2, x3, x4, x5, x6⟩
  have HX := Lib.hid X
  clear x0 x1 x2 x3 x4 x5 x6 X
  obtain ⟨x0, x1, x2, x3, x4, x5, x6⟩ := HX.out
  go_upto_region 4 with (go_at_call 6; refine (eval_short false 14 0 rfl rfl _ _ _ _ _ _ _ _ _ _ _ (by rw [cell_last _ _ _ _ _ (by simp)]; rfl) (by rw [cell_last _ _ _ _ _ (by simp)]; rfl) (by rw [cell_last _ _ _ _ _ (by simp)]; rfl) (by rw [cell_last _ _ _ _ _ (by simp)]; rfl) (by rw [cell_last _ _ _ _ _ (by simp)]; rfl) (by rw [cell_last _ _ _ _ _ (by simp)]; rfl) (by rw [cell_last _ _ _ _ _ (by simp)]; rfl)).mono ?_; rintro e w2 ⟨rfl, hb2⟩; have HB2 := Lib.hid ((below1 _ _).trans (hb2.mono (by simp))); clear hb2)
  clear x0 x1 x2 x3 x4 x5 x6
  have hV := new3 2 0 ⟨#[]⟩ w2
  have hB3 := HB2.out.trans ((below1 w2 (.cells #[.int .i64 2, .int .i64 0, .string ⟨#[]⟩] 23)).mono HB2.out.size)
  generalize w2.alloc (.cells #[.int .i64 2, .int .i64 0, .string ⟨#[]⟩] 23) = W3 at hV hB3 ⊢
  have HB3 := Lib.hid hB3
  clear hB3
  obtain ⟨x0, x1, x2, x3, x4, x5, x6⟩ := keep7 HB3.out hz1 HX.out
  have hz3 : w.heap.size < W3.heap.size := Nat.lt_of_lt_of_le hz1 HB3.out.size
  have HV := Lib.hid hV
  clear hV
  go_upto_region 5 with (go_at_call 6; refine (eval_short true 15 1 rfl rfl _ _ _ _ _ _ _ _ _ _ _ (by rw [cell_last _ _ _ _ _ (by simp)]; rfl) (by rw [cell_last _ _ _ _ _ (by simp)]; rfl) (by rw [cell_last _ _ _ _ _ (by simp)]; rfl) (by rw [cell_last _ _ _ _ _ (by simp)]; rfl) (by rw [cell_last _ _ _ _ _ (by simp)]; rfl) (by rw [cell_last _ _ _ _ _ (by simp)]; rfl) (by rw [cell_last _ _ _ _ _ (by simp)]; rfl)).mono ?_; rintro e w4 ⟨rfl, hb4⟩; have HB4 := Lib.hid ((below1 _ _).trans (hb4.mono (by simp))); clear hb4)
  clear x0 x1 x2 x3 x4 x5 x6
  obtain ⟨hv, v0, v1, v2⟩ := keep3 HB4.out HV.out
  have hq0 := run_eqT false
  have hq1 := run_eqT true
  simp only [b2i, Bool.false_eq_true, if_false, if_true] at hq0 hq1
  have hgv := guardV
  go_wp2_with (go_at_call 7; refine (lnum_any _ _).mono ?_; rintro e w7 ⟨rfl, rfl⟩)
  go_ret
  exact ⟨rfl, (HA.out.trans ((HB3.out.mono HA.out.size).trans (HB4.out.mono (by have := HA.out.size; have := HB3.out.size; omega)))).alloc (by have := HA.out.size; have := HB3.out.size; have := HB4.out.size; omega) _⟩

end Go.Proofs.Ytjogpcffldkhlaa
