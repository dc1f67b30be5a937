/- What the small functions of package version answer for any version: the walks. Conditions: texts that every machine keeps. -/
import Derived.Test.YtclcidcjeoajaaaChecked
import Derived.Test.YtclcidcjeoajaaaMa
import Derived.WalkKit
import Derived.WalkSpells
import Derived.WalkLawsBesides
import Derived.Deep.QuietTactic
import Derived.BigQuiet
import Derived.Deep.RegionHeld3
import Derived.Deep.DeepCutAuto
import Derived.Deep.Light
import Derived.Lib.Hide
import Derived.Lib.QuietBelow
import Derived.StillTailTactics
import Derived.Maps.AppendAt
import Derived.IntWalk
namespace Go.Proofs.Ytclcidcjeoajaaa
open Go.RowKit
set_option linter.unusedSimpArgs false
set_option linter.unusedVariables false

theorem below1 (w : World) (o : Obj) : Below w.heap.size w (w.alloc o) := (Below.refl _ _).alloc (Nat.le_refl _) o
theorem below2 (w : World) (o p : Obj) : Below w.heap.size w ((w.alloc o).alloc p) := (below1 w o).alloc (by simp) p
theorem ret_bool {a b : Bool} (h : a = b) : Ending.returned (.bool a) = .returned (.bool b) := by rw [h]
theorem ret_int {k : IntKind} {a b : Int} (h : a = b) : Ending.returned (.int k a) = .returned (.int k b) := by rw [h]
theorem bcell {W w1 : World} (hb : Below W.heap.size W w1) : (∀ b o, b < W.heap.size → w1.cell? ⟨b, o, none⟩ = W.cell? ⟨b, o, none⟩) ∧ (∀ b o, b < W.heap.size → w1.frozen? ⟨b, o, none⟩ = W.frozen? ⟨b, o, none⟩) :=
  ⟨fun b o h => hb.cell (p := ⟨b, o, none⟩) h, fun b o h => hb.frozen (p := ⟨b, o, none⟩) h⟩
theorem thn {a b c : World} (h : Below a.heap.size a b) (k : Below b.heap.size b c) : Below a.heap.size a c := h.trans (k.mono h.size)
theorem cell_last (W : World) (cs : Array Value) (t g o : Nat) (hg : g = W.heap.size) : (W.alloc (.cells cs t)).cell? ⟨g, o, none⟩ = cs[o]? := by
  subst hg; exact World.cell?_alloc_mark W cs t (0, 0) o
theorem cell_lt {w : World} {p : Addr} {v : Value} (h : w.cell? p = some v) : p.block < w.heap.size := World.block_lt_of_cell? w _ h
theorem cell_keep {w w' : World} {p : Addr} {v : Value} (h : w.cell? p = some v) (hb : Below w.heap.size w w') : w'.cell? p = some v := (hb.cell (cell_lt h)).trans h

@[reducible] def Ver.val (v : Ver) : Value := .agg #[.int .i64 v.t, .int .i64 v.x, .bool v.g, .string v.v]

set_option maxHeartbeats 400000 in
theorem mayWrite_any (x : Int) (w : World) :
    Calls Try.prog 24 #[.int .i64 x] w fun e w' => e = .returned (.bool (txB x)) ∧ w = w' := by
  go_enter Try.func24, Try.ntmps24
  go_wp2
  all_goals go_ret
  all_goals exact ⟨ret_bool (by unfold txB; grind), rfl⟩
set_option maxHeartbeats 400000 in
theorem fits_any (g : Bool) (s : ByteArray) (w : World) (hs : s.size ≤ 140737488355328) :
    Calls Try.prog 25 #[.bool g, .string s] w fun e w' => e = .returned (.bool (fitB g s)) ∧ w = w' := by
  cases g
  all_goals
    cases hE : s.toList.isEmpty
    all_goals
      go_enter Try.func25, Try.ntmps25
      go_wp2
      all_goals go_ret
      all_goals exact ⟨ret_bool (by unfold fitB; rw [hE]; grind), rfl⟩
set_option maxHeartbeats 1000000 in
theorem mayBe_any (v : Ver) (w : World) :
    Calls Try.prog 19 #[.agg #[.int .i64 v.t, .int .i64 v.x, .bool v.g, .string v.v]] w fun e w' => e = .returned (.bool (mayB v)) ∧ Below w.heap.size w w' := by
  have HM := Lib.hid fun W => mayWrite_any v.x W
  have HF := Lib.hid fun W => fits_any v.g v.v W v.h
  obtain ⟨t, x, g, s, h⟩ := v
  simp only [mayB] at HM HF ⊢
  generalize txB x = X at *
  generalize fitB g s = F at *
  cases X
  all_goals
    go_enter Try.func19, Try.ntmps19
    go_wp2_with (first | (go_at_call 24; (with_reducible refine (HM.out _).mono ?_); rintro e w1 ⟨rfl, rfl⟩) | (go_at_call 25; (with_reducible refine (HF.out _).mono ?_); rintro e w1 ⟨rfl, rfl⟩))
    all_goals go_ret
    all_goals exact ⟨ret_bool (by grind), below1 _ _⟩
set_option maxHeartbeats 1000000 in
theorem mayFollow_any (v a : Ver) (w : World) :
    Calls Try.prog 20 #[.agg #[.int .i64 v.t, .int .i64 v.x, .bool v.g, .string v.v], .agg #[.int .i64 a.t, .int .i64 a.x, .bool a.g, .string a.v]] w fun e w' => e = .returned (.bool (folB v a)) ∧ Below w.heap.size w w' := by
  go_enter Try.func20, Try.ntmps20
  go_wp2
  all_goals go_ret
  all_goals exact ⟨ret_bool (by unfold folB; grind), below2 _ _ _⟩
set_option maxHeartbeats 1000000 in
theorem isOpen_any (v : Ver) (x : Int) (w : World) :
    Calls Try.prog 22 #[.agg #[.int .i64 v.t, .int .i64 v.x, .bool v.g, .string v.v], .int .i64 x] w fun e w' => e = .returned (.bool (opnB x v)) ∧ Below w.heap.size w w' := by
  go_enter Try.func22, Try.ntmps22
  go_wp2
  all_goals go_ret
  all_goals exact ⟨ret_bool (by unfold opnB; grind), below1 _ _⟩
set_option maxHeartbeats 1000000 in
theorem isOld_any (v : Ver) (n : Int) (p : Addr) (w : World) (hp : w.cell? p = some (.int .i64 n)) :
    Calls Try.prog 29 #[.agg #[.int .i64 v.t, .int .i64 v.x, .bool v.g, .string v.v], .pointer (some p)] w fun e w' => e = .returned (.bool (cmtB n v)) ∧ Below w.heap.size w w' := by
  have hq := cell_keep hp (below1 w (.cells #[.int .i64 v.t, .int .i64 v.x, .bool v.g, .string v.v] 41))
  have hl := cell_lt hp
  go_enter Try.func29, Try.ntmps29
  go_wp2
  all_goals go_ret
  all_goals exact ⟨ret_bool (by unfold cmtB; grind), below1 _ _⟩
theorem committedBy_any (n : Int) (w : World) :
    Calls Try.prog 17 #[.int .i64 n] w fun e w' => e = .returned (.func (.func 29) #[] #[.pointer (some ⟨w.heap.size, 0, none⟩)]) ∧ w.alloc (.cells #[.int .i64 n] 3) = w' := by
  go_enter Try.func17, Try.ntmps17
  go_wp2
  go_ret
  exact ⟨rfl, rfl⟩
/-- The test of See, over the cells that it captured: txn's, and the function of the snapshot, whose cell is at q. -/
def Caps (w : World) (n x : Int) (p f q : Addr) : Prop :=
  w.cell? p = some (.int .i64 x) ∧ w.cell? f = some (.func (.func 29) #[] #[.pointer (some q)]) ∧ w.cell? q = some (.int .i64 n)
theorem Caps.below {w w' : World} {n x : Int} {p f q : Addr} (h : Caps w n x p f q) (hb : Below w.heap.size w w') : Caps w' n x p f q :=
  ⟨cell_keep h.1 hb, cell_keep h.2.1 hb, cell_keep h.2.2 hb⟩
theorem box4 {wr w2 : World} {a b c d : Value} {t : TypeId} (hb : Below (wr.alloc (.cells #[a, b, c, d] t)).heap.size (wr.alloc (.cells #[a, b, c, d] t)) w2) :
    w2.cell? ⟨wr.heap.size, 0, none⟩ = some a ∧ w2.cell? ⟨wr.heap.size, 1, none⟩ = some b ∧ w2.cell? ⟨wr.heap.size, 2, none⟩ = some c ∧ w2.cell? ⟨wr.heap.size, 3, none⟩ = some d ∧ Below wr.heap.size wr w2 ∧ wr.heap.size < w2.heap.size := by
  have hz := hb.size
  simp only [World.size_alloc] at hz
  refine ⟨?_, ?_, ?_, ?_, (below1 _ _).trans (hb.mono (by simp)), by omega⟩
  · rw [hb.cell (p := ⟨wr.heap.size, 0, none⟩) (by simp), cell_last _ _ _ _ _ rfl]; rfl
  · rw [hb.cell (p := ⟨wr.heap.size, 1, none⟩) (by simp), cell_last _ _ _ _ _ rfl]; rfl
  · rw [hb.cell (p := ⟨wr.heap.size, 2, none⟩) (by simp), cell_last _ _ _ _ _ rfl]; rfl
  · rw [hb.cell (p := ⟨wr.heap.size, 3, none⟩) (by simp), cell_last _ _ _ _ _ rfl]; rfl
set_option maxHeartbeats 2000000 in
theorem sees_any (v : Ver) (n x : Int) (p f q : Addr) (w : World) (hc : Caps w n x p f q) :
    Calls Try.prog 21 #[.agg #[.int .i64 v.t, .int .i64 v.x, .bool v.g, .string v.v], .pointer (some p), .pointer (some f)] w fun e w' => e = .returned (.bool (seeB n x v)) ∧ Below w.heap.size w w' := by
  have hc1 := hc.below (below1 w (.cells #[.int .i64 v.t, .int .i64 v.x, .bool v.g, .string v.v] 41))
  have HO := Lib.hid fun W => isOpen_any v x W
  have HC := Lib.hid fun W (hb : Caps W n x p f q) => isOld_any v n q W hb.2.2
  have HCA := Lib.hid hc1
  obtain ⟨c0, c1, c2⟩ := hc1
  clear hc
  have l0 := cell_lt c0
  have l1 := cell_lt c1
  simp only [World.size_alloc] at l0 l1
  have hl0 : p.block < w.heap.size + 1 := l0
  have hsee : seeB n x v = (opnB x v || cmtB n v) := rfl
  rw [hsee]
  clear hsee
  generalize cmtB n v = C at *
  generalize hO : opnB x v = O at *
  have HOO := Lib.hid hO
  clear hO
  cases O
  all_goals
    go_enter Try.func21, Try.ntmps21
    go_wp2_with (first | (go_at_call 22; (with_reducible refine (HO.out _).mono ?_); rintro e w1 ⟨rfl, hb1⟩; have HCB := Lib.hid (HCA.out.below hb1); obtain ⟨b0, b1, b2, b3, hb1', hz1⟩ := box4 hb1; have HB1 := Lib.hid hb1'; have d1 := HCB.out.2.1; clear hb1 hb1') | (go_at_call 29; (with_reducible refine (HC.out _ HCB.out).mono ?_); rintro e w2 ⟨rfl, hb2⟩; have HB2 := Lib.hid (thn HB1.out hb2); clear hb2))
    all_goals go_ret
    all_goals first | exact ⟨rfl, HB2.out⟩ | exact ⟨rfl, HB1.out⟩
end Go.Proofs.Ytclcidcjeoajaaa
