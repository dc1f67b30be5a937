/- What Eval of package eval answers of "and" with false ahead and of "or" with true ahead: the walks. Conditions: none. -/
import Derived.Test.YtjogpcffldkhlaaEf
namespace Go.Proofs.Ytjogpcffldkhlaa
open Go.RowKit Go.Sort
set_option linter.unusedSimpArgs false
set_option linter.unusedVariables false

def b2i (b : Bool) : Int := if b = true then 1 else 0
theorem truth_any (b : Bool) (w : World) : Calls Try.prog 33 #[.bool b] w fun e w' => e = .returned (.agg #[.int .i64 2, .int .i64 (b2i b), .string ⟨#[]⟩]) ∧ Below w.heap.size w w' := by
  cases b
  · go_enter Try.func33, Try.ntmps33
    go_wp2
    exact bodyPost_ret (v := .agg #[.int .i64 2, .int .i64 0, .string ⟨#[]⟩]) (by simp [results, Try.results33, go_sem]) rfl ⟨rfl, by repeat (first | exact Below.refl _ _ | (refine Below.setCell ?_ (by first | omega | (simp; done) | (simp; omega)) _) | (refine Below.alloc ?_ (by first | omega | (simp; done) | (simp; omega)) _))⟩
  · go_enter Try.func33, Try.ntmps33
    go_wp2
    exact bodyPost_ret (v := .agg #[.int .i64 2, .int .i64 1, .string ⟨#[]⟩]) (by simp [results, Try.results33, go_sem]) rfl ⟨rfl, by repeat (first | exact Below.refl _ _ | (refine Below.setCell ?_ (by first | omega | (simp; done) | (simp; omega)) _) | (refine Below.alloc ?_ (by first | omega | (simp; done) | (simp; omega)) _))⟩

theorem ba_iff {x y : ByteArray} : x.toList = y.toList ↔ x = y := by
  rw [ByteArray.toList_eq, ByteArray.toList_eq]
  exact ⟨fun h => ByteArray.ext (Array.toList_inj.1 h), fun h => by rw [h]⟩
def eqV (a b : Vl) : Bool := (a.k == b.k) && ((a.n == b.n) && (a.s.toList == b.s.toList))
theorem stoodV : Try.prog.stoodInHeld 23 = false := by kernel_rfl
theorem underV : Try.prog.underlying 23 = some (.struct (Try.prog.fieldsOf 23)) := by simp only [Program.fieldsOf, Try.underlying23]
theorem guardV : Try.prog.eqGuardType Try.prog.depth 23 = false := by kernel_rfl
theorem run_eqV (a b : Vl) (w : World) : (binOp .eql 23 (.agg #[.int .i64 a.k, .int .i64 a.n, .string a.s]) (.agg #[.int .i64 b.k, .int .i64 b.n, .string b.s])).run Try.prog w = .ok (.bool (eqV a b)) w := by
  rw [run_eql_struct, run_equalIn_agg w 9999 23 _ _ underV stoodV]
  simp [go_sem, eqV, Try.underlying23]
  by_cases h1 : a.k = b.k <;> by_cases h2 : a.n = b.n <;> by_cases h3 : a.s.toList = b.s.toList <;> simp [h1, h2, h3]
theorem eqV_iff {a b : Vl} : eqV a b = true ↔ a = b := by
  obtain ⟨a0, a1, a2, _⟩ := a
  obtain ⟨b0, b1, b2, _⟩ := b
  simp [eqV, ba_iff]
/-- A truth. -/
def T (b : Bool) : Vl := ⟨2, b2i b, ⟨#[]⟩, by cases b <;> decide +kernel, by decide⟩
theorem run_eqT (b : Bool) (w : World) : (binOp .eql 23 (.agg #[.int .i64 2, .int .i64 (b2i b), .string ⟨#[]⟩]) (.agg #[.int .i64 2, .int .i64 (b2i b), .string ⟨#[]⟩])).run Try.prog w = .ok (.bool true) w := by
  have h := run_eqV (T b) (T b) w
  rw [eqV_iff.2 rfl] at h
  exact h

theorem argsOf_0 (w : World) : Calls Try.prog 32 #[.int .i64 0] w fun e w' => e = .returned (.tuple #[.int .i64 0, .bool true]) ∧ w = w' := by
  go_enter Try.func32, Try.ntmps32
  go_wp2
  go_ret2
  exact ⟨rfl, rfl⟩
theorem argsOf_14 (b : Bool) (w : World) : Calls Try.prog 32 #[.int .i64 (14 + b2i b)] w fun e w' => e = .returned (.tuple #[.int .i64 2, .bool true]) ∧ w = w' := by
  cases b
  all_goals
    simp only [b2i, if_true, if_false, Bool.false_eq_true, Int.add_zero, Int.reduceAdd]
    go_enter Try.func32, Try.ntmps32
    go_wp2
    go_ret2
    exact ⟨rfl, rfl⟩

theorem checkPart_0 (k n : Int) (s t m : ByteArray) (A : Option Addr) (c : Nat) (w : World) :
    Calls Try.prog 22 #[.agg #[.int .i64 0, .int .i64 k, .int .i64 n, .string s, .string t, .string m, .slice A 0 c], .int .i64 2] w fun e w' => e = .returned (.int .i64 0) ∧ Below w.heap.size w w' := by
  go_enter Try.func22, Try.ntmps22
  go_wp2_with (go_at_call 32; refine (argsOf_0 _).mono ?_; rintro e w1 ⟨rfl, rfl⟩)
  go_ret
  exact ⟨rfl, below1 _ _⟩
theorem checkPart_14 (b : Bool) (k n : Int) (s t m : ByteArray) (A : Option Addr) (c : Nat) (w : World) :
    Calls Try.prog 22 #[.agg #[.int .i64 (14 + b2i b), .int .i64 k, .int .i64 n, .string s, .string t, .string m, .slice A 2 c], .int .i64 1] w fun e w' => e = .returned (.int .i64 0) ∧ Below w.heap.size w w' := by
  have h := argsOf_14 b
  generalize 14 + b2i b = o at h ⊢
  go_enter Try.func22, Try.ntmps22
  go_wp2_with (go_at_call 32; refine (h _).mono ?_; rintro e w1 ⟨rfl, rfl⟩)
  go_ret
  exact ⟨rfl, below1 _ _⟩

theorem below3 (w : World) (o p q : Obj) : Below w.heap.size w (((w.alloc o).alloc p).alloc q) := (below2 w o p).alloc (by simp; omega) q
theorem box_mid {w w1 : World} {o1 o3 : Obj} {cs : Array Value} {t : TypeId} (hb : Below (((w.alloc o1).alloc (.cells cs t)).alloc o3).heap.size (((w.alloc o1).alloc (.cells cs t)).alloc o3) w1) (j : Nat) (v : Value) (h : cs[j]? = some v) : w1.cell? ⟨w.heap.size + 1, j, none⟩ = some v := by
  rw [hb.cell (p := ⟨w.heap.size + 1, j, none⟩) (by simp), (below1 _ _).cell (p := ⟨w.heap.size + 1, j, none⟩) (by simp), cell_last _ _ _ _ _ (by simp)]
  exact h
theorem box_low {w w1 : World} {o2 o3 : Obj} {cs : Array Value} {t : TypeId} (hb : Below (((w.alloc (.cells cs t)).alloc o2).alloc o3).heap.size (((w.alloc (.cells cs t)).alloc o2).alloc o3) w1) (j : Nat) (v : Value) (h : cs[j]? = some v) : w1.cell? ⟨w.heap.size, j, none⟩ = some v := by
  rw [hb.cell (p := ⟨w.heap.size, j, none⟩) (by simp; omega), (below1 _ _).cell (p := ⟨w.heap.size, j, none⟩) (by simp; omega), (below1 _ _).cell (p := ⟨w.heap.size, j, none⟩) (by simp), cell_last _ _ _ _ _ rfl]
  exact h
theorem box_top {w w1 : World} {o1 o2 : Obj} (hb : Below (((w.alloc o1).alloc o2).alloc (.cells #[.int .i64 0, .int .i64 0, .string ⟨#[]⟩] 23)).heap.size (((w.alloc o1).alloc o2).alloc (.cells #[.int .i64 0, .int .i64 0, .string ⟨#[]⟩] 23)) w1) : Row w1 (w.heap.size + 1 + 1) [zeroV] :=
  (Row.new ((w.alloc o1).alloc o2) zeroV 23 (w.heap.size + 1 + 1) (by simp)).below hb

set_option maxHeartbeats 2000000 in
theorem part_lit (v : Vl) (t m : ByteArray) (A : Option Addr) (c : Nat) (w : World) (rA : Option Addr) (rn rc : Nat) :
    Calls Try.prog 11 #[.agg #[.slice rA rn rc], .agg #[.int .i64 0, .int .i64 v.k, .int .i64 v.n, .string v.s, .string t, .string m, .slice A 0 c], .int .i64 2] w fun e w' => e = .returned (.tuple #[v.val, .int .i64 0]) ∧ Below w.heap.size w w' := by
  go_enter Try.func11, Try.ntmps11
  go_wp2_with (go_at_call 22; refine (checkPart_0 _ _ _ _ _ _ _ _).mono ?_; rintro e w1 ⟨rfl, hb⟩; have e0 := box_mid hb 0 _ rfl; have e1 := box_mid hb 1 _ rfl; have e2 := box_mid hb 2 _ rfl; have e3 := box_mid hb 3 _ rfl; obtain ⟨s0, s1, s2, g0, g1, g2⟩ := (box_top hb).one; have HB := Lib.hid hb; clear hb)
  exact bodyPost_ret (v := .tuple #[v.val, .int .i64 0]) (by simp [results, Try.results11, go_sem, s0, s1, s2]) rfl ⟨rfl, below_cells (by omega) (valC v) 0 ((below3 _ _ _ _).trans (HB.out.mono (by simp; omega)))⟩

set_option maxHeartbeats 2000000 in
theorem tells_false (w : World) : Calls Try.prog 24 #[.int .i64 14, .agg #[.int .i64 2, .int .i64 0, .string ⟨#[]⟩]] w fun e w' => e = .returned (.bool true) ∧ Below w.heap.size w w' := by
  have ho := fun w => truth_any false w
  have hq := fun w => run_eqT false w
  have hg := guardV
  simp only [b2i, Bool.false_eq_true, if_false] at ho hq
  obtain ⟨c0, c1, c2, _⟩ := (Row.new w (T false) 23 _ rfl).one
  simp only [T, b2i, Bool.false_eq_true, if_false] at c0 c1 c2
  have c0' := cell_regrown c0
  have c1' := cell_regrown c1
  have c2' := cell_regrown c2
  clear c0 c1 c2
  go_enter Try.func24, Try.ntmps24
  go_wp2_with fail
  refine wp_region_quiet_below (by kernel_rfl) (by kernel_rfl) ?_
  repeat (go_big_quiet_step (exact Calls.regrown_of (ho _)))
  refine wpQuiet_nil ?_
  intro w5 hw5
  obtain ⟨pp, rfl⟩ := hw5
  clear c0' c1' c2' ho
  go_wp2_with fail
  go_ret
  exact ⟨rfl, (below1 _ _).trans ((below_regrown _ pp.d pp.os).mono (by simp))⟩

set_option maxHeartbeats 2000000 in
theorem tells_true (w : World) : Calls Try.prog 24 #[.int .i64 15, .agg #[.int .i64 2, .int .i64 1, .string ⟨#[]⟩]] w fun e w' => e = .returned (.bool true) ∧ Below w.heap.size w w' := by
  have ho := fun w => truth_any true w
  have hq := fun w => run_eqT true w
  have hg := guardV
  simp only [b2i, if_true] at ho hq
  obtain ⟨c0, c1, c2, _⟩ := (Row.new w (T true) 23 _ rfl).one
  simp only [T, b2i, if_true] at c0 c1 c2
  have c0' := cell_regrown c0
  have c1' := cell_regrown c1
  have c2' := cell_regrown c2
  clear c0 c1 c2
  go_enter Try.func24, Try.ntmps24
  go_wp2_with fail
  refine wp_region_quiet_below (by kernel_rfl) (by kernel_rfl) ?_
  repeat (go_big_quiet_step (exact Calls.regrown_of (ho _)))
  refine wpQuiet_nil ?_
  intro w5 hw5
  obtain ⟨pp, rfl⟩ := hw5
  clear c0' c1' c2' ho
  go_wp2_with fail
  go_ret
  exact ⟨rfl, (below1 _ _).trans ((below_regrown _ pp.d pp.os).mono (by simp))⟩

theorem keep3 {g : Nat} {a b : Int} {s : ByteArray} {W w' : World} (hb : Below W.heap.size W w') (h : g < W.heap.size ∧ W.cell? ⟨g, 0, none⟩ = some (.int .i64 a) ∧ W.cell? ⟨g, 1, none⟩ = some (.int .i64 b) ∧ W.cell? ⟨g, 2, none⟩ = some (.string s)) :
    g < w'.heap.size ∧ w'.cell? ⟨g, 0, none⟩ = some (.int .i64 a) ∧ w'.cell? ⟨g, 1, none⟩ = some (.int .i64 b) ∧ w'.cell? ⟨g, 2, none⟩ = some (.string s) := by
  obtain ⟨hc, hf⟩ := bcell hb
  exact ⟨Nat.lt_of_lt_of_le h.1 hb.size, by rw [hc _ _ h.1]; exact h.2.1, by rw [hc _ _ h.1]; exact h.2.2.1, by rw [hc _ _ h.1]; exact h.2.2.2⟩
theorem new3 (a b : Int) (s : ByteArray) (W : World) : W.heap.size < (W.alloc (.cells #[.int .i64 a, .int .i64 b, .string s] 23)).heap.size ∧ (W.alloc (.cells #[.int .i64 a, .int .i64 b, .string s] 23)).cell? ⟨W.heap.size, 0, none⟩ = some (.int .i64 a) ∧ (W.alloc (.cells #[.int .i64 a, .int .i64 b, .string s] 23)).cell? ⟨W.heap.size, 1, none⟩ = some (.int .i64 b) ∧ (W.alloc (.cells #[.int .i64 a, .int .i64 b, .string s] 23)).cell? ⟨W.heap.size, 2, none⟩ = some (.string s) :=
  ⟨by simp, by rw [cell_last _ _ _ _ _ rfl]; rfl, by rw [cell_last _ _ _ _ _ rfl]; rfl, by rw [cell_last _ _ _ _ _ rfl]; rfl⟩
theorem frozen_last (W : World) (cs : Array Value) (t g o : Nat) (hg : g = W.heap.size) : (W.alloc (.cells cs t)).frozen? ⟨g, o, none⟩ = false := World.frozen?_alloc_at cs t g o hg
theorem keepZ {g : Nat} {W w' : World} (hb : Below W.heap.size W w') (h : g < W.heap.size ∧ W.cell? ⟨g, 0, none⟩ = some (.int .i64 0) ∧ W.cell? ⟨g, 1, none⟩ = some (.int .i64 0) ∧ W.cell? ⟨g, 2, none⟩ = some (.string ⟨#[]⟩) ∧ W.frozen? ⟨g, 0, none⟩ = false ∧ W.frozen? ⟨g, 1, none⟩ = false ∧ W.frozen? ⟨g, 2, none⟩ = false) : g < w'.heap.size ∧ w'.cell? ⟨g, 0, none⟩ = some (.int .i64 0) ∧ w'.cell? ⟨g, 1, none⟩ = some (.int .i64 0) ∧ w'.cell? ⟨g, 2, none⟩ = some (.string ⟨#[]⟩) ∧ w'.frozen? ⟨g, 0, none⟩ = false ∧ w'.frozen? ⟨g, 1, none⟩ = false ∧ w'.frozen? ⟨g, 2, none⟩ = false := by
  obtain ⟨l, a0, a1, a2, f0, f1, f2⟩ := h
  obtain ⟨m, x0, x1, x2⟩ := keep3 hb ⟨l, a0, a1, a2⟩
  obtain ⟨hc, hf⟩ := bcell hb
  exact ⟨m, x0, x1, x2, by rw [hf _ _ l]; exact f0, by rw [hf _ _ l]; exact f1, by rw [hf _ _ l]; exact f2⟩
theorem newZ0 (W : World) : W.heap.size < (W.alloc (.cells #[.int .i64 0, .int .i64 0, .string ⟨#[]⟩] 23)).heap.size ∧ (W.alloc (.cells #[.int .i64 0, .int .i64 0, .string ⟨#[]⟩] 23)).cell? ⟨W.heap.size, 0, none⟩ = some (.int .i64 0) ∧ (W.alloc (.cells #[.int .i64 0, .int .i64 0, .string ⟨#[]⟩] 23)).cell? ⟨W.heap.size, 1, none⟩ = some (.int .i64 0) ∧ (W.alloc (.cells #[.int .i64 0, .int .i64 0, .string ⟨#[]⟩] 23)).cell? ⟨W.heap.size, 2, none⟩ = some (.string ⟨#[]⟩) ∧ (W.alloc (.cells #[.int .i64 0, .int .i64 0, .string ⟨#[]⟩] 23)).frozen? ⟨W.heap.size, 0, none⟩ = false ∧ (W.alloc (.cells #[.int .i64 0, .int .i64 0, .string ⟨#[]⟩] 23)).frozen? ⟨W.heap.size, 1, none⟩ = false ∧ (W.alloc (.cells #[.int .i64 0, .int .i64 0, .string ⟨#[]⟩] 23)).frozen? ⟨W.heap.size, 2, none⟩ = false := by
  obtain ⟨m, x0, x1, x2⟩ := new3 0 0 ⟨#[]⟩ W
  exact ⟨m, x0, x1, x2, frozen_last _ _ _ _ _ rfl, frozen_last _ _ _ _ _ rfl, frozen_last _ _ _ _ _ rfl⟩
theorem newZ {W w' : World} (hb : Below (W.alloc (.cells #[.int .i64 0, .int .i64 0, .string ⟨#[]⟩] 23)).heap.size (W.alloc (.cells #[.int .i64 0, .int .i64 0, .string ⟨#[]⟩] 23)) w') : W.heap.size < w'.heap.size ∧ w'.cell? ⟨W.heap.size, 0, none⟩ = some (.int .i64 0) ∧ w'.cell? ⟨W.heap.size, 1, none⟩ = some (.int .i64 0) ∧ w'.cell? ⟨W.heap.size, 2, none⟩ = some (.string ⟨#[]⟩) ∧ w'.frozen? ⟨W.heap.size, 0, none⟩ = false ∧ w'.frozen? ⟨W.heap.size, 1, none⟩ = false ∧ w'.frozen? ⟨W.heap.size, 2, none⟩ = false := keepZ hb (newZ0 W)
theorem newZd {W w' : World} (hb : Below (W.alloc (.cells #[.int .i64 0, .int .i64 0, .string ⟨#[]⟩] 23)).drew.heap.size (W.alloc (.cells #[.int .i64 0, .int .i64 0, .string ⟨#[]⟩] 23)).drew w') : W.heap.size < w'.heap.size ∧ w'.cell? ⟨W.heap.size, 0, none⟩ = some (.int .i64 0) ∧ w'.cell? ⟨W.heap.size, 1, none⟩ = some (.int .i64 0) ∧ w'.cell? ⟨W.heap.size, 2, none⟩ = some (.string ⟨#[]⟩) ∧ w'.frozen? ⟨W.heap.size, 0, none⟩ = false ∧ w'.frozen? ⟨W.heap.size, 1, none⟩ = false ∧ w'.frozen? ⟨W.heap.size, 2, none⟩ = false :=
  newZ (Below.trans ((Below.refl _ _).drew) hb)
theorem below_set3 (G : Nat) (W : World) (a b : Int) (s : ByteArray) : Below G W (((W.setCell ⟨G, 0, none⟩ (.int .i64 a)).setCell ⟨G, 1, none⟩ (.int .i64 b)).setCell ⟨G, 2, none⟩ (.string s)) := (((Below.refl G W).setCell (by simp) _).setCell (by simp) _).setCell (by simp) _
theorem set3 {g : Nat} {W : World} (a b : Int) (s : ByteArray) (h : g < W.heap.size ∧ W.cell? ⟨g, 0, none⟩ = some (.int .i64 0) ∧ W.cell? ⟨g, 1, none⟩ = some (.int .i64 0) ∧ W.cell? ⟨g, 2, none⟩ = some (.string ⟨#[]⟩) ∧ W.frozen? ⟨g, 0, none⟩ = false ∧ W.frozen? ⟨g, 1, none⟩ = false ∧ W.frozen? ⟨g, 2, none⟩ = false) :
    g < (((W.setCell ⟨g, 0, none⟩ (.int .i64 a)).setCell ⟨g, 1, none⟩ (.int .i64 b)).setCell ⟨g, 2, none⟩ (.string s)).heap.size ∧ (((W.setCell ⟨g, 0, none⟩ (.int .i64 a)).setCell ⟨g, 1, none⟩ (.int .i64 b)).setCell ⟨g, 2, none⟩ (.string s)).cell? ⟨g, 0, none⟩ = some (.int .i64 a) ∧ (((W.setCell ⟨g, 0, none⟩ (.int .i64 a)).setCell ⟨g, 1, none⟩ (.int .i64 b)).setCell ⟨g, 2, none⟩ (.string s)).cell? ⟨g, 1, none⟩ = some (.int .i64 b) ∧ (((W.setCell ⟨g, 0, none⟩ (.int .i64 a)).setCell ⟨g, 1, none⟩ (.int .i64 b)).setCell ⟨g, 2, none⟩ (.string s)).cell? ⟨g, 2, none⟩ = some (.string s) := by
  obtain ⟨l, a0, a1, a2, f0, f1, f2⟩ := h
  refine ⟨by simpa using l, ?_, ?_, ?_⟩ <;> go_simp

/-- What part keeps while it asks the first Arg. -/
def PS (q p : Nat) (rA : Option Addr) (rn rc c : Nat) (B : Int) (w1 W : World) : Prop :=
  W.cell? ⟨q, 0, none⟩ = some (.slice rA rn rc) ∧ W.cell? ⟨q + 1, 6, none⟩ = some (.slice (some ⟨p, 0, none⟩) 2 c) ∧ W.cell? ⟨p, 0, none⟩ = some (.int .i64 0) ∧ W.cell? ⟨p, 1, none⟩ = some (.int .i64 2) ∧ W.cell? ⟨p, 2, none⟩ = some (.int .i64 B) ∧ W.cell? ⟨p, 3, none⟩ = some (.string ⟨#[]⟩) ∧ W.cell? ⟨p, 4, none⟩ = some (.string ⟨#[]⟩) ∧ W.cell? ⟨p, 5, none⟩ = some (.string ⟨#[]⟩) ∧ W.cell? ⟨p, 6, none⟩ = some (.slice none 0 0) ∧ Below w1.heap.size w1 W
theorem PS.keep {q p : Nat} {rA : Option Addr} {rn rc c : Nat} {B : Int} {w1 W w' : World} (hb : Below W.heap.size W w') (h : PS q p rA rn rc c B w1 W) : PS q p rA rn rc c B w1 w' := by
  obtain ⟨a, b, c0, c1, c2, c3, c4, c5, c6, hB⟩ := h
  have k := fun {x : Addr} {v : Value} (h : W.cell? x = some v) => (hb.cell (cell_lt h)).trans h
  exact ⟨k a, k b, k c0, k c1, k c2, k c3, k c4, k c5, k c6, hB.trans (hb.mono hB.size)⟩

theorem PS.under {q p : Nat} {rA : Option Addr} {rn rc c : Nat} {B : Int} {w1 W w' : World} (hb : Below w1.heap.size W w') (hq : q + 1 < w1.heap.size) (hp : p < w1.heap.size) (h : PS q p rA rn rc c B w1 W) : PS q p rA rn rc c B w1 w' := by
  obtain ⟨a, b, c0, c1, c2, c3, c4, c5, c6, hB⟩ := h
  have k := fun {x : Addr} {v : Value} (hx : x.block < w1.heap.size) (h : W.cell? x = some v) => (hb.cell hx).trans h
  exact ⟨k (by show q < _; omega) a, k hq b, k hp c0, k hp c1, k hp c2, k hp c3, k hp c4, k hp c5, k hp c6, hB.trans hb⟩

set_option maxRecDepth 100000 in
set_option maxHeartbeats 4000000 in
theorem part_short (b : Bool) (O B : Int) (hO : O = 14 + b2i b) (hB : B = b2i b) (k n : Int) (s t m : ByteArray) (p c : Nat) (w : World) (rA : Option Addr) (rn rc : Nat)
    (c0 : w.cell? ⟨p, 0, none⟩ = some (.int .i64 0)) (c1 : w.cell? ⟨p, 1, none⟩ = some (.int .i64 2)) (c2 : w.cell? ⟨p, 2, none⟩ = some (.int .i64 B)) (c3 : w.cell? ⟨p, 3, none⟩ = some (.string ⟨#[]⟩)) (c4 : w.cell? ⟨p, 4, none⟩ = some (.string ⟨#[]⟩)) (c5 : w.cell? ⟨p, 5, none⟩ = some (.string ⟨#[]⟩)) (c6 : w.cell? ⟨p, 6, none⟩ = some (.slice none 0 0)) :
    Calls Try.prog 11 #[.agg #[.slice rA rn rc], .agg #[.int .i64 O, .int .i64 k, .int .i64 n, .string s, .string t, .string m, .slice (some ⟨p, 0, none⟩) 2 c], .int .i64 1] w fun e w' => e = .returned (.tuple #[.agg #[.int .i64 2, .int .i64 B, .string ⟨#[]⟩], .int .i64 0]) ∧ Below w.heap.size w w' := by
  have hp := cell_lt c0
  have hck := fun w => checkPart_14 b k n s t m (some ⟨p, 0, none⟩) c w
  have hlit : ∀ w, Calls Try.prog 11 #[.agg #[.slice rA rn rc], .agg #[.int .i64 0, .int .i64 2, .int .i64 B, .string ⟨#[]⟩, .string ⟨#[]⟩, .string ⟨#[]⟩, .slice none 0 0], .int .i64 2] w fun e w' => e = .returned (.tuple #[.agg #[.int .i64 2, .int .i64 B, .string ⟨#[]⟩], .int .i64 0]) ∧ Below w.heap.size w w' := by
    subst hB
    exact fun w => part_lit (T b) ⟨#[]⟩ ⟨#[]⟩ none 0 w rA rn rc
  have htell : ∀ w, Calls Try.prog 24 #[.int .i64 O, .agg #[.int .i64 2, .int .i64 B, .string ⟨#[]⟩]] w fun e w' => e = .returned (.bool true) ∧ Below w.heap.size w w' := by
    subst hO hB
    cases b
    · exact tells_false
    · exact tells_true
  have hO0 : (O == 0) = false := by subst hO; cases b <;> rfl
  have hO1 : (O == 1) = false := by subst hO; cases b <;> rfl
  rw [← hO] at hck
  clear hO hB
  go_enter Try.func11, Try.ntmps11
  go_upto_region 9 with (go_at_call 22; refine (hck _).mono ?_; rintro e w1 ⟨rfl, hb⟩; have e0 := box_mid hb 0 _ rfl; have e6 := box_mid hb 6 _ rfl; have r0 := box_low hb 0 _ rfl; have hR := Lib.hid (box_top hb); have HB := Lib.hid ((below3 _ _ _ _).trans (hb.mono (by simp; omega))); have z1 := hb.size; clear hb)
  simp only [World.size_alloc] at z1
  have hS0 : w1.drew.cell? ⟨w.heap.size, 0, none⟩ = some (.slice rA rn rc) ∧ w1.drew.cell? ⟨w.heap.size + 1, 6, none⟩ = some (.slice (some ⟨p, 0, none⟩) 2 c) ∧ w1.drew.cell? ⟨p, 0, none⟩ = some (.int .i64 0) ∧ w1.drew.cell? ⟨p, 1, none⟩ = some (.int .i64 2) ∧ w1.drew.cell? ⟨p, 2, none⟩ = some (.int .i64 B) ∧ w1.drew.cell? ⟨p, 3, none⟩ = some (.string ⟨#[]⟩) ∧ w1.drew.cell? ⟨p, 4, none⟩ = some (.string ⟨#[]⟩) ∧ w1.drew.cell? ⟨p, 5, none⟩ = some (.string ⟨#[]⟩) ∧ w1.drew.cell? ⟨p, 6, none⟩ = some (.slice none 0 0) ∧ Below w1.heap.size w1 w1.drew := ⟨r0, e6, (HB.out.cell (p := ⟨p, 0, none⟩) hp).trans c0, (HB.out.cell (p := ⟨p, 1, none⟩) hp).trans c1, (HB.out.cell (p := ⟨p, 2, none⟩) hp).trans c2, (HB.out.cell (p := ⟨p, 3, none⟩) hp).trans c3, (HB.out.cell (p := ⟨p, 4, none⟩) hp).trans c4, (HB.out.cell (p := ⟨p, 5, none⟩) hp).trans c5, (HB.out.cell (p := ⟨p, 6, none⟩) hp).trans c6, (Below.refl _ _).drew⟩
  clear r0 e6 c0 c1 c2 c3 c4 c5 c6 hck
  have hq1 : w.heap.size + 1 < w1.heap.size := by omega
  have hp1 : p < w1.heap.size := by have h : p < w.heap.size := hp; omega
  have hw2 : IntKind.i64.wrap 2 = 2 := by decide +kernel
  go_cut [9, 10] (fun pt er wx => ∃ g : Nat, pt = .pointer (some ⟨g, 0, none⟩) ∧ er = .int .i64 0 ∧ w1.heap.size ≤ g ∧ g < wx.heap.size ∧ wx.cell? ⟨g, 0, none⟩ = some (.int .i64 2) ∧ wx.cell? ⟨g, 1, none⟩ = some (.int .i64 B) ∧ wx.cell? ⟨g, 2, none⟩ = some (.string ⟨#[]⟩) ∧ Below w1.heap.size w1 wx)
  case first =>
    go_region_held3 (fun W => W.cell? ⟨w.heap.size, 0, none⟩ = some (.slice rA rn rc) ∧ W.cell? ⟨w.heap.size + 1, 6, none⟩ = some (.slice (some ⟨p, 0, none⟩) 2 c) ∧ W.cell? ⟨p, 0, none⟩ = some (.int .i64 0) ∧ W.cell? ⟨p, 1, none⟩ = some (.int .i64 2) ∧ W.cell? ⟨p, 2, none⟩ = some (.int .i64 B) ∧ W.cell? ⟨p, 3, none⟩ = some (.string ⟨#[]⟩) ∧ W.cell? ⟨p, 4, none⟩ = some (.string ⟨#[]⟩) ∧ W.cell? ⟨p, 5, none⟩ = some (.string ⟨#[]⟩) ∧ W.cell? ⟨p, 6, none⟩ = some (.slice none 0 0) ∧ Below w1.heap.size w1 W)
      (first | exact hS | exact hS0 | exact PS.keep (below1 _ _) hS | exact PS.keep (below1 _ _) hS0 | exact PS.under (below_set3 _ _ _ _ _) hq1 hp1 hS | assumption)
      ((go_at_call 11; refine (hlit _).mono ?_; rintro e v1 ⟨rfl, hb⟩; have hS : v1.cell? ⟨w.heap.size, 0, none⟩ = some (.slice rA rn rc) ∧ v1.cell? ⟨w.heap.size + 1, 6, none⟩ = some (.slice (some ⟨p, 0, none⟩) 2 c) ∧ v1.cell? ⟨p, 0, none⟩ = some (.int .i64 0) ∧ v1.cell? ⟨p, 1, none⟩ = some (.int .i64 2) ∧ v1.cell? ⟨p, 2, none⟩ = some (.int .i64 B) ∧ v1.cell? ⟨p, 3, none⟩ = some (.string ⟨#[]⟩) ∧ v1.cell? ⟨p, 4, none⟩ = some (.string ⟨#[]⟩) ∧ v1.cell? ⟨p, 5, none⟩ = some (.string ⟨#[]⟩) ∧ v1.cell? ⟨p, 6, none⟩ = some (.slice none 0 0) ∧ Below w1.heap.size w1 v1 := (by first | exact PS.keep hb hS | exact PS.keep hb hS0 | exact PS.keep hb (PS.keep (below1 _ _) hS) | exact PS.keep hb (PS.keep (below1 _ _) hS0)); have zv : w1.heap.size ≤ v1.heap.size := hS.2.2.2.2.2.2.2.2.2.size; first | (have b7 := keepZ hb b7) | (have b7 := newZ hb) | (have b7 := newZd hb) | skip))
    all_goals go_wp2_with fail
    all_goals go_meet
    all_goals first | exact ⟨v1.heap.size, rfl, rfl, zv, (new3 2 B ⟨#[]⟩ v1).1, (new3 2 B ⟨#[]⟩ v1).2.1, (new3 2 B ⟨#[]⟩ v1).2.2.1, (new3 2 B ⟨#[]⟩ v1).2.2.2, hS.2.2.2.2.2.2.2.2.2.alloc zv _⟩ | exact ⟨w1.heap.size, rfl, rfl, Nat.le_refl _, (set3 2 B ⟨#[]⟩ b7).1, (set3 2 B ⟨#[]⟩ b7).2.1, (set3 2 B ⟨#[]⟩ b7).2.2.1, (set3 2 B ⟨#[]⟩ b7).2.2.2, hS.2.2.2.2.2.2.2.2.2.trans (below_set3 w1.heap.size v1 2 B ⟨#[]⟩)⟩
  case rest =>
    obtain ⟨g, rfl, rfl, hg, hgz, x0, x1, x2, hBx⟩ := hcut
    have y0 := (hBx.cell (p := ⟨w.heap.size + 1, 0, none⟩) hq1).trans e0
    have HR := Lib.hid (hR.out.under hBx (by omega))
    have HBx := Lib.hid hBx
    clear hBx e0 hS0 hR hlit
    go_wp2_with (go_at_call 24; refine (htell _).mono ?_; rintro e v3 ⟨rfl, hb3⟩; have x0 := (hb3.cell (p := ⟨g, 0, none⟩) hgz).trans x0; have x1 := (hb3.cell (p := ⟨g, 1, none⟩) hgz).trans x1; have x2 := (hb3.cell (p := ⟨g, 2, none⟩) hgz).trans x2; obtain ⟨s0, s1, s2, f0, f1, f2⟩ := (HR.out.below hb3).one; have HB3 := Lib.hid hb3; clear hb3)
    exact bodyPost_ret (v := .tuple #[.agg #[.int .i64 2, .int .i64 B, .string ⟨#[]⟩], .int .i64 0]) (by simp [results, Try.results11, go_sem, s0, s1, s2]) rfl ⟨rfl, (HB.out.trans ((HBx.out.mono HB.out.size).trans (HB3.out.mono (by have := HB.out.size; have := HBx.out.size; omega)))).trans ((below_set3 (w.heap.size + 1 + 1) v3 2 B ⟨#[]⟩).mono (by omega))⟩

end Go.Proofs.Ytjogpcffldkhlaa
