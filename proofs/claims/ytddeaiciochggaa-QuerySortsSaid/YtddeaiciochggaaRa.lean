/- What eval and query answer of the items of the statements' example: the walks of argsOf, checkPart, column, part, fresh, Eval, number, Fold, isAggregate. Conditions: none. -/
import Derived.Test.YtddeaiciochggaaQg
namespace Go.Proofs.Ytddeaiciochggaa
open Go.RowKit Go.Sort
set_option linter.unusedSimpArgs false
set_option linter.unusedVariables false

/-- An expression without parts. -/
abbrev exA (op k n : Int) : Value := .agg #[.int .i64 op, .int .i64 k, .int .i64 n, .string ⟨#[]⟩, .string ⟨#[]⟩, .string ⟨#[]⟩, .slice none 0 0]
set_option maxHeartbeats 1000000 in
theorem args1_any (w : World) : Calls Try.prog 143 #[.int .i64 1] w fun e w' => e = .returned (.tuple #[.int .i64 0, .bool true]) ∧ w = w' := by
  go_enter Try.func143, Try.ntmps143
  go_wp2
  go_ret2
  exact ⟨rfl, rfl⟩
set_option maxHeartbeats 1000000 in
theorem check1_any (k n : Int) (w : World) : Calls Try.prog 133 #[exA 1 k n, .int .i64 1] w fun e w' => e = .returned (.int .i64 0) ∧ Below w.heap.size w w' := by
  have H := Lib.hid fun W => args1_any W
  unfold exA
  go_enter Try.func133, Try.ntmps133
  go_wp2_with (go_at_call 143; (with_reducible refine (H.out _).mono ?_); rintro e w1 ⟨rfl, rfl⟩)
  go_ret
  exact ⟨rfl, below1 _ _⟩
set_option maxHeartbeats 2000000 in
theorem column0_any (A : Addr) (c : Nat) (v : Vl) (w : World) (h : RdL w (some A) [v]) : Calls Try.prog 134 #[.agg #[.slice (some A) 1 c], .int .i64 0] w fun e w' => e = .returned (.tuple #[.agg #[.int .i64 v.k, .int .i64 v.n, .string v.s], .int .i64 0]) ∧ Below w.heap.size w w' := by
  obtain ⟨ad, e0, c0, c1, c2⟩ := h.at_ (j := 0) (by simp)
  injection e0 with e0
  subst e0
  rw [Nat.zero_mul, add0] at c0 c1 c2
  have c0' : w.cell? A = some (.int .i64 v.k) := c0
  have c1' : w.cell? ⟨A.block, A.off + 1, none⟩ = some (.int .i64 v.n) := c1
  have c2' : w.cell? ⟨A.block, A.off + 2, none⟩ = some (.string v.s) := c2
  have hl := cell_lt c0'
  clear c0 c1 c2 h
  go_enter Try.func134, Try.ntmps134
  go_wp2
  exact bodyPost_ret (v := .tuple #[.agg #[.int .i64 v.k, .int .i64 v.n, .string v.s], .int .i64 0]) (by simp [results, Try.results134, go_sem]) rfl ⟨rfl, by repeat (first | exact Below.refl _ _ | (refine Below.setCell ?_ (by first | omega | (simp; done) | (simp; omega)) _) | (refine Below.alloc ?_ (by first | omega | (simp; done) | (simp; omega)) _))⟩
theorem below_set3' (b : Nat) (w : World) (x y z : Value) : Below b w (((w.setCell ⟨b, 0, none⟩ x).setCell ⟨b, 1, none⟩ y).setCell ⟨b, 2, none⟩ z) :=
  (((Below.refl _ _).setCell (p := ⟨b, 0, none⟩) (Nat.le_refl _) x).setCell (p := ⟨b, 1, none⟩) (Nat.le_refl _) y).setCell (p := ⟨b, 2, none⟩) (Nat.le_refl _) z
set_option maxHeartbeats 4000000 in
theorem part1_any (A : Addr) (c : Nat) (v : Vl) (k : Int) (w : World) (h : RdL w (some A) [v]) : Calls Try.prog 127 #[.agg #[.slice (some A) 1 c], exA 1 k 0, .int .i64 1] w fun e w' => e = .returned (.tuple #[.agg #[.int .i64 v.k, .int .i64 v.n, .string v.s], .int .i64 0]) ∧ Below w.heap.size w w' := by
  have HC := Lib.hid fun W => check1_any k 0 W
  have HQ := Lib.hid fun W (hb : Below w.heap.size w W) => column0_any A c v W (h.below hb)
  have hW : Below w.heap.size w (((w.alloc (.cells #[.slice (some A) 1 c] 191)).alloc (.cells #[.int .i64 1, .int .i64 k, .int .i64 0, .string ⟨#[]⟩, .string ⟨#[]⟩, .string ⟨#[]⟩, .slice none 0 0] 98)).alloc (.cells #[.int .i64 0, .int .i64 0, .string ⟨#[]⟩] 96)) := ((below1 _ _).alloc (by simp) _).alloc (by simp; omega) _
  have hR := Row.new ((w.alloc (.cells #[.slice (some A) 1 c] 191)).alloc (.cells #[.int .i64 1, .int .i64 k, .int .i64 0, .string ⟨#[]⟩, .string ⟨#[]⟩, .string ⟨#[]⟩, .slice none 0 0] 98)) zeroV 96 (w.heap.size + 1 + 1) (by simp)
  have x0 : (((w.alloc (.cells #[.slice (some A) 1 c] 191)).alloc (.cells #[.int .i64 1, .int .i64 k, .int .i64 0, .string ⟨#[]⟩, .string ⟨#[]⟩, .string ⟨#[]⟩, .slice none 0 0] 98)).alloc (.cells #[.int .i64 0, .int .i64 0, .string ⟨#[]⟩] 96)).cell? ⟨w.heap.size, 0, none⟩ = some (.slice (some A) 1 c) := ((below1 _ _).cell (p := ⟨w.heap.size, 0, none⟩) (by simp; omega)).trans (((below1 _ _).cell (p := ⟨w.heap.size, 0, none⟩) (by simp)).trans ((cell_last _ _ _ _ _ rfl).trans rfl))
  have x1 : (((w.alloc (.cells #[.slice (some A) 1 c] 191)).alloc (.cells #[.int .i64 1, .int .i64 k, .int .i64 0, .string ⟨#[]⟩, .string ⟨#[]⟩, .string ⟨#[]⟩, .slice none 0 0] 98)).alloc (.cells #[.int .i64 0, .int .i64 0, .string ⟨#[]⟩] 96)).cell? ⟨w.heap.size + 1, 0, none⟩ = some (.int .i64 1) := ((below1 _ _).cell (p := ⟨w.heap.size + 1, 0, none⟩) (by simp)).trans ((cell_last _ _ _ _ _ (by simp)).trans rfl)
  have x2 : (((w.alloc (.cells #[.slice (some A) 1 c] 191)).alloc (.cells #[.int .i64 1, .int .i64 k, .int .i64 0, .string ⟨#[]⟩, .string ⟨#[]⟩, .string ⟨#[]⟩, .slice none 0 0] 98)).alloc (.cells #[.int .i64 0, .int .i64 0, .string ⟨#[]⟩] 96)).cell? ⟨w.heap.size + 1, 2, none⟩ = some (.int .i64 0) := ((below1 _ _).cell (p := ⟨w.heap.size + 1, 2, none⟩) (by simp)).trans ((cell_last _ _ _ _ _ (by simp)).trans rfl)
  have HW := Lib.hid hW
  have HR := Lib.hid hR
  have X0 := Lib.hid x0
  have X1 := Lib.hid x1
  have X2 := Lib.hid x2
  clear hW hR x0 x1 x2 h
  unfold exA
  unfold exA at HC
  go_enter Try.func127, Try.ntmps127
  go_wp2_with (first
    | (go_at_call 133; (with_reducible refine (HC.out _).mono ?_); rintro e w1 ⟨rfl, hb⟩; have HB1 := Lib.hid (thn HW.out hb); have HR1 := Lib.hid (HR.out.below hb); have y0 := (hb.cell (cell_lt X0.out)).trans X0.out; have y1 := (hb.cell (cell_lt X1.out)).trans X1.out; have y2 := (hb.cell (cell_lt X2.out)).trans X2.out; clear hb)
    | (go_at_call 134; (with_reducible refine (HQ.out _ HB1.out).mono ?_); rintro e w2 ⟨rfl, hb⟩; have HB2 := Lib.hid (thn HB1.out hb); obtain ⟨s0, s1, s2, g0, g1, g2⟩ := (HR1.out.below hb).one; clear hb))
  exact bodyPost_ret (v := .tuple #[.agg #[.int .i64 v.k, .int .i64 v.n, .string v.s], .int .i64 0]) (by simp [results, Try.results127, go_sem, s0, s1, s2]) rfl ⟨rfl, HB2.out.trans ((below_set3' (w.heap.size + 1 + 1) w2 _ _ _).mono (by omega))⟩
set_option maxHeartbeats 2000000 in
theorem eFresh_any (v : Vl) (w : World) :
    Calls Try.prog 123 #[.agg #[.int .i64 v.k, .int .i64 v.n, .string v.s]] w fun e w' => e = .returned (.agg #[.int .i64 v.k, .int .i64 v.n, .string v.s]) ∧ Below w.heap.size w w' := by
  have HC := Lib.hid fun W => sClone_any v.s W v.h.2
  have hR1 := Row.new w v 96 w.heap.size rfl
  have hR2 := Row.new (w.alloc (.cells #[.int .i64 v.k, .int .i64 v.n, .string v.s] 96)) zeroV 96 (w.heap.size + 1) (by simp)
  have HR1 := Lib.hid (hR1.below (below1 _ (.cells #[.int .i64 0, .int .i64 0, .string ⟨#[]⟩] 96)))
  have HR2 := Lib.hid hR2
  have HW : Hid (Below w.heap.size w ((w.alloc (.cells #[.int .i64 v.k, .int .i64 v.n, .string v.s] 96)).alloc (.cells #[.int .i64 0, .int .i64 0, .string ⟨#[]⟩] 96))) := Lib.hid ((below1 _ _).alloc (by simp) _)
  clear hR1 hR2
  go_enter Try.func123, Try.ntmps123
  go_wp2_with (go_at_call 32; (with_reducible refine (HC.out _).mono ?_); rintro e w1 ⟨rfl, hb⟩; have HB1 := Lib.hid (thn HW.out hb); obtain ⟨s0, s1, s2, g0, g1, g2⟩ := (HR1.out.below hb).one; obtain ⟨t0, t1, t2, u0, u1, u2⟩ := (HR2.out.below hb).one; clear hb)
  exact bodyPost_ret (v := .agg #[.int .i64 v.k, .int .i64 v.n, .string v.s]) (by simp [results, Try.results123, go_sem, s0, s1, s2, t0, t1, t2]) rfl ⟨rfl, by repeat (first | exact HB1.out | (refine Below.setCell ?_ (by first | omega | (simp; done) | (simp; omega)) _))⟩
set_option maxHeartbeats 4000000 in
theorem eval1_any (A : Addr) (c : Nat) (v : Vl) (k : Int) (w : World) (h : RdL w (some A) [v]) : Calls Try.prog 112 #[exA 1 k 0, .slice (some A) 1 c] w fun e w' => e = .returned (.tuple #[.agg #[.int .i64 v.k, .int .i64 v.n, .string v.s], .int .i64 0]) ∧ Below w.heap.size w w' := by
  have HP := Lib.hid fun W (hb : Below w.heap.size w W) => part1_any A c v k W (h.below hb)
  have HF := Lib.hid fun W => eFresh_any v W
  have HW : Hid (Below w.heap.size w ((w.alloc (.cells #[.int .i64 1, .int .i64 k, .int .i64 0, .string ⟨#[]⟩, .string ⟨#[]⟩, .string ⟨#[]⟩, .slice none 0 0] 98)).alloc (.cells #[.int .i64 0, .int .i64 0, .string ⟨#[]⟩] 96))) := Lib.hid ((below1 _ _).alloc (by simp) _)
  have HR := Lib.hid (Row.new (w.alloc (.cells #[.int .i64 1, .int .i64 k, .int .i64 0, .string ⟨#[]⟩, .string ⟨#[]⟩, .string ⟨#[]⟩, .slice none 0 0] 98)) zeroV 96 (w.heap.size + 1) (by simp))
  clear h
  unfold exA
  unfold exA at HP
  go_enter Try.func112, Try.ntmps112
  go_wp2_with (first
    | (go_at_call 127; (with_reducible refine (HP.out _ HW.out).mono ?_); rintro e w1 ⟨rfl, hb⟩; have HB1 := Lib.hid (thn HW.out hb); have HR1 := Lib.hid ((HR.out.below hb).below (below1 w1 (.cells #[.int .i64 v.k, .int .i64 v.n, .string v.s] 96))); clear hb)
    | (go_at_call 123; (with_reducible refine (HF.out _).mono ?_); rintro e w2 ⟨rfl, hb⟩; have HB2 := Lib.hid (thn (thn HB1.out (below1 _ _)) hb); obtain ⟨s0, s1, s2, g0, g1, g2⟩ := (HR1.out.below hb).one; clear hb))
  exact bodyPost_ret (v := .tuple #[.agg #[.int .i64 v.k, .int .i64 v.n, .string v.s], .int .i64 0]) (by simp [results, Try.results112, go_sem, s0, s1, s2]) rfl ⟨rfl, HB2.out.trans ((below_set3' (w.heap.size + 1) w2 _ _ _).mono (by omega))⟩
set_option maxHeartbeats 1000000 in
theorem number_any (n : Int) (w : World) : Calls Try.prog 119 #[.int .i64 n] w fun e w' => e = .returned (.agg #[.int .i64 1, .int .i64 n, .string ⟨#[]⟩]) ∧ Below w.heap.size w w' := by
  go_enter Try.func119, Try.ntmps119
  go_wp2
  exact bodyPost_ret (v := .agg #[.int .i64 1, .int .i64 n, .string ⟨#[]⟩]) (by simp [results, Try.results119, go_sem]) rfl ⟨rfl, by repeat (first | exact Below.refl _ _ | (refine Below.setCell ?_ (by first | omega | (simp; done) | (simp; omega)) _) | (refine Below.alloc ?_ (by first | omega | (simp; done) | (simp; omega)) _))⟩
set_option maxHeartbeats 1000000 in
theorem isAgg_any (b : Int) (r : Bool) (hr : (b = 18 ∧ r = true) ∨ (b = 1 ∧ r = false)) (w : World) : Calls Try.prog 104 #[.int .i64 b] w fun e w' => e = .returned (.bool r) ∧ w = w' := by
  rcases hr with ⟨rfl, rfl⟩ | ⟨rfl, rfl⟩
  all_goals
    go_enter Try.func104, Try.ntmps104
    go_wp2
    go_ret
    exact ⟨rfl, rfl⟩
end Go.Proofs.Ytddeaiciochggaa
