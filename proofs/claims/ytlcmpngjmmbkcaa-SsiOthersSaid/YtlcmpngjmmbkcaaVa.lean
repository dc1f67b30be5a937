/- What the small functions of package ssi answer for any transaction: the walks. Conditions: none. -/
import Derived.Test.YtlcmpngjmmbkcaaChecked
import Derived.Test.YtlcmpngjmmbkcaaMa
import Derived.WalkKit
import Derived.WalkSpells
import Derived.WalkLawsBesides
import Derived.Deep.QuietTactic
import Derived.BigQuiet
import Derived.Deep.RegionHeld3
import Derived.Deep.DeepCutAuto
import Derived.Deep.Light
import Derived.Lib.Hide
import Derived.Lib.QuietBelow
import Derived.StillTailTactics
import Derived.Maps.AppendAt
import Derived.IntWalk
namespace Go.Proofs.Ytlcmpngjmmbkcaa
open Go.RowKit
set_option linter.unusedSimpArgs false
set_option linter.unusedVariables false

theorem below1 (w : World) (o : Obj) : Below w.heap.size w (w.alloc o) := (Below.refl _ _).alloc (Nat.le_refl _) o
theorem below2 (w : World) (o p : Obj) : Below w.heap.size w ((w.alloc o).alloc p) := (below1 w o).alloc (by simp) p
theorem ret_bool {a b : Bool} (h : a = b) : Ending.returned (.bool a) = .returned (.bool b) := by rw [h]
theorem ret_int {k : IntKind} {a b : Int} (h : a = b) : Ending.returned (.int k a) = .returned (.int k b) := by rw [h]
theorem thn {a b c : World} (h : Below a.heap.size a b) (k : Below b.heap.size b c) : Below a.heap.size a c := h.trans (k.mono h.size)
theorem cell_last (W : World) (cs : Array Value) (t g o : Nat) (hg : g = W.heap.size) : (W.alloc (.cells cs t)).cell? ⟨g, o, none⟩ = cs[o]? := by
  subst hg; exact World.cell?_alloc_mark W cs t (0, 0) o
theorem cell_lt {w : World} {p : Addr} {v : Value} (h : w.cell? p = some v) : p.block < w.heap.size := World.block_lt_of_cell? w _ h
theorem cell_keep {w w' : World} {p : Addr} {v : Value} (h : w.cell? p = some v) (hb : Below w.heap.size w w') : w'.cell? p = some v := (hb.cell (cell_lt h)).trans h
/-- A block that was just made stays. -/
theorem box_keep {wr w2 : World} {cs : Array Value} {t : TypeId} (hb : Below (wr.alloc (.cells cs t)).heap.size (wr.alloc (.cells cs t)) w2) :
    (∀ o v, cs[o]? = some v → w2.cell? ⟨wr.heap.size, o, none⟩ = some v) ∧ Below wr.heap.size wr w2 ∧ wr.heap.size < w2.heap.size := by
  have hz := hb.size
  simp only [World.size_alloc] at hz
  refine ⟨fun o v h => ?_, (below1 _ _).trans (hb.mono (by simp)), by omega⟩
  rw [hb.cell (p := ⟨wr.heap.size, o, none⟩) (by simp), cell_last _ _ _ _ _ rfl]; exact h
theorem box5 {wr w2 : World} {a b c d f : Value} {t : TypeId} (hb : Below (wr.alloc (.cells #[a, b, c, d, f] t)).heap.size (wr.alloc (.cells #[a, b, c, d, f] t)) w2) :
    w2.cell? ⟨wr.heap.size, 0, none⟩ = some a ∧ w2.cell? ⟨wr.heap.size, 1, none⟩ = some b ∧ w2.cell? ⟨wr.heap.size, 2, none⟩ = some c ∧ w2.cell? ⟨wr.heap.size, 3, none⟩ = some d ∧ w2.cell? ⟨wr.heap.size, 4, none⟩ = some f ∧ Below wr.heap.size wr w2 ∧ wr.heap.size < w2.heap.size := by
  obtain ⟨h, h1, h2⟩ := box_keep hb
  exact ⟨h 0 _ rfl, h 1 _ rfl, h 2 _ rfl, h 3 _ rfl, h 4 _ rfl, h1, h2⟩
theorem boxes {w w2 : World} {cs ds : Array Value} {t u : TypeId} (hb : Below ((w.alloc (.cells cs t)).alloc (.cells ds u)).heap.size ((w.alloc (.cells cs t)).alloc (.cells ds u)) w2) :
    (∀ o v, cs[o]? = some v → w2.cell? ⟨w.heap.size, o, none⟩ = some v) ∧ (∀ o v, ds[o]? = some v → w2.cell? ⟨w.heap.size + 1, o, none⟩ = some v) ∧ Below w.heap.size w w2 ∧ w.heap.size + 1 < w2.heap.size := by
  have hz := hb.size
  simp only [World.size_alloc] at hz
  refine ⟨fun o v h => ?_, fun o v h => ?_, (below2 _ _ _).trans (hb.mono (by simp; omega)), by omega⟩
  · rw [hb.cell (p := ⟨w.heap.size, o, none⟩) (by simp; omega), (below1 (w.alloc (.cells cs t)) (.cells ds u)).cell (p := ⟨w.heap.size, o, none⟩) (by simp), cell_last _ _ _ _ _ rfl]; exact h
  · rw [hb.cell (p := ⟨w.heap.size + 1, o, none⟩) (by simp), cell_last _ _ _ _ _ (by simp)]; exact h
set_option maxHeartbeats 1000000 in
theorem isCom_any (t : Tx) (w : World) :
    Calls Try.prog 19 #[.agg #[.int .i64 t.i, .int .i64 t.s, .int .i64 t.e, .bool t.a, .bool t.o]] w fun e w' => e = .returned (.bool (decide (0 < t.e))) ∧ Below w.heap.size w w' := by
  go_enter Try.func19, Try.ntmps19
  go_wp2
  all_goals go_ret
  all_goals exact ⟨ret_bool (by grind), below1 _ _⟩
set_option maxHeartbeats 1000000 in
theorem hasBoth_any (t : Tx) (w : World) :
    Calls Try.prog 24 #[.agg #[.int .i64 t.i, .int .i64 t.s, .int .i64 t.e, .bool t.a, .bool t.o]] w fun e w' => e = .returned (.bool (t.a && t.o)) ∧ Below w.heap.size w w' := by
  obtain ⟨i, s, e, a, o⟩ := t
  cases a
  all_goals
    go_enter Try.func24, Try.ntmps24
    go_wp2
    all_goals go_ret
    all_goals exact ⟨ret_bool (by simp), below1 _ _⟩
set_option maxHeartbeats 1000000 in
theorem isAhead_any (t : Tx) (x : Int) (w : World) :
    Calls Try.prog 26 #[.agg #[.int .i64 t.i, .int .i64 t.s, .int .i64 t.e, .bool t.a, .bool t.o], .int .i64 x] w fun e w' => e = .returned (.bool (ahdB x t)) ∧ Below w.heap.size w w' := by
  have HC := Lib.hid fun W => isCom_any t W
  have hd : ahdB x t = (decide (0 < t.e) && decide (t.e ≤ x)) := rfl
  rw [hd]
  clear hd
  generalize decide (0 < t.e) = D at *
  cases D
  all_goals
    go_enter Try.func26, Try.ntmps26
    go_wp2_with (go_at_call 19; (with_reducible refine (HC.out _).mono ?_); rintro e w1 ⟨rfl, hb1⟩; obtain ⟨b0, b1, b2, b3, b4, hb1', hz1⟩ := box5 hb1; have HB1 := Lib.hid hb1'; clear hb1 hb1')
    all_goals go_ret
    all_goals exact ⟨ret_bool (by simp), HB1.out⟩
set_option maxHeartbeats 2000000 in
theorem mayBe_any (t : Tx) (c : Int) (w : World) :
    Calls Try.prog 18 #[.agg #[.int .i64 t.i, .int .i64 t.s, .int .i64 t.e, .bool t.a, .bool t.o], .int .i64 c] w fun e w' => e = .returned (.bool (mayB c t)) ∧ Below w.heap.size w w' := by
  have HE := Lib.hid fun W => isAhead_any t t.s W
  unfold mayB
  generalize ahdB t.s t = E at *
  obtain ⟨i, s, e, a, o⟩ := t
  simp only at HE ⊢
  by_cases h1 : 0 ≤ s
  · by_cases h2 : s ≤ c
    · by_cases h3 : -1 ≤ e
      · by_cases h4 : e ≤ c
        · go_enter Try.func18, Try.ntmps18
          go_wp2_with (go_at_call 26; (with_reducible refine (HE.out _).mono ?_); rintro e w1 ⟨rfl, hb1⟩; have HB1 := Lib.hid (box5 hb1).2.2.2.2.2.1; clear hb1)
          all_goals go_ret
          all_goals exact ⟨ret_bool (by simp [h1, h2, h3, h4]), HB1.out⟩
        · go_enter Try.func18, Try.ntmps18
          go_wp2_with fail
          all_goals go_ret
          all_goals exact ⟨ret_bool (by rw [decide_eq_false (show ¬ e ≤ c by omega)]; simp), below1 _ _⟩
      · go_enter Try.func18, Try.ntmps18
        go_wp2_with fail
        all_goals go_ret
        all_goals exact ⟨ret_bool (by rw [decide_eq_false (show ¬ -1 ≤ e by omega)]; simp), below1 _ _⟩
    · go_enter Try.func18, Try.ntmps18
      go_wp2_with fail
      all_goals go_ret
      all_goals exact ⟨ret_bool (by rw [decide_eq_false (show ¬ s ≤ c by omega)]; simp), below1 _ _⟩
  · go_enter Try.func18, Try.ntmps18
    go_wp2_with fail
    all_goals go_ret
    all_goals exact ⟨ret_bool (by rw [decide_eq_false (show ¬ 0 ≤ s by omega)]; simp), below1 _ _⟩
/-- Are two at the same time? -/
def onceB (x y : Tx) : Bool := decide (x.e ≠ -1) && (decide (y.e ≠ -1) && (!ahdB y.s x && !ahdB x.s y))
set_option maxHeartbeats 4000000 in
theorem once_any (x y : Tx) (w : World) :
    Calls Try.prog 21 #[.agg #[.int .i64 x.i, .int .i64 x.s, .int .i64 x.e, .bool x.a, .bool x.o], .agg #[.int .i64 y.i, .int .i64 y.s, .int .i64 y.e, .bool y.a, .bool y.o]] w fun e w' => e = .returned (.bool (onceB x y)) ∧ Below w.heap.size w w' := by
  have HX := Lib.hid fun W => isAhead_any x y.s W
  have HY := Lib.hid fun W => isAhead_any y x.s W
  unfold onceB
  generalize ahdB y.s x = X at *
  generalize ahdB x.s y = Y at *
  obtain ⟨i, s, e, a, o⟩ := x
  obtain ⟨i', s', e', a', o'⟩ := y
  simp only at HX HY ⊢
  by_cases h1 : e = -1
  · go_enter Try.func21, Try.ntmps21
    go_wp2_with fail
    all_goals go_ret
    all_goals exact ⟨ret_bool (by simp [h1]), below2 _ _ _⟩
  · by_cases h2 : e' = -1
    · go_enter Try.func21, Try.ntmps21
      go_wp2_with fail
      all_goals go_ret
      all_goals exact ⟨ret_bool (by simp [h2]), below2 _ _ _⟩
    · cases X
      all_goals
        go_enter Try.func21, Try.ntmps21
        go_wp2_with (go_at_call 26; first | ((with_reducible refine (HX.out _).mono ?_); rintro e w1 ⟨rfl, hb1⟩; obtain ⟨k1, k2, hb1', hz1⟩ := boxes hb1; have HB1 := Lib.hid hb1'; clear hb1 hb1'; have a1 := k1 1 _ rfl; have c0 := k2 0 _ rfl; have c1 := k2 1 _ rfl; have c2 := k2 2 _ rfl; have c3 := k2 3 _ rfl; have c4 := k2 4 _ rfl; clear k1 k2) | ((with_reducible refine (HY.out _).mono ?_); rintro e w2 ⟨rfl, hb2⟩; have HB2 := Lib.hid (thn HB1.out hb2); clear hb2))
        all_goals go_ret
        all_goals first | exact ⟨ret_bool (by simp [h1, h2]), HB2.out⟩ | exact ⟨ret_bool (by simp [h1, h2]), HB1.out⟩
end Go.Proofs.Ytlcmpngjmmbkcaa
