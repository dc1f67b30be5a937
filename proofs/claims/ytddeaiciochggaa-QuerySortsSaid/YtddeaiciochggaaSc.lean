/- A list of lists in memory of the call's own, and slices.swapRangeCmpFunc over it: the walk. Conditions: places within the list. -/
import Derived.Test.YtddeaiciochggaaSb
import Derived.WalkKit
import Derived.WalkSpells
import Derived.WalkLawsBesides
import Derived.Deep.QuietTactic
import Derived.BigQuiet
import Derived.BigRegion
import Derived.Lib.Hide
import Derived.Deep.DeepCutAuto
import Derived.Deep.RegionHeld3
import Derived.RegionTactic
import Derived.Deep.RegionWith
import Derived.Deep.MidRow
import Derived.Deep.Light
import Derived.Lib.QuietBelow
namespace Go.Proofs.Ytddeaiciochggaa.So
open Go.RowKit
set_option linter.unusedSimpArgs false
set_option linter.unusedVariables false

theorem cell_lt {w : World} {p : Addr} {v : Value} (h : w.cell? p = some v) : p.block < w.heap.size := World.block_lt_of_cell? w _ h
/-- A slice's words. -/
structure Sl where
  A : Option Addr
  n : Nat
  c : Nat
  deriving Inhabited
def Sl.v (s : Sl) : Value := .slice s.A s.n s.c
/-- The row of block g holds the slices, and may be written. -/
structure Dt (w : World) (g : Nat) (xs : List Sl) : Prop where
  cells : ∀ j s, xs[j]? = some s → w.cell? ⟨g, j, none⟩ = some (.slice s.A s.n s.c)
  there : ∀ j, j < xs.length → w.frozen? ⟨g, j, none⟩ = false
theorem Dt.at_ {w : World} {g : Nat} {P S : List Sl} {s : Sl} (h : Dt w g (P ++ s :: S)) : w.cell? ⟨g, P.length, none⟩ = some (.slice s.A s.n s.c) ∧ w.frozen? ⟨g, P.length, none⟩ = false :=
  ⟨h.cells _ _ (get_at P S s), h.there _ (by simp)⟩
theorem Dt.lt {w : World} {g : Nat} {xs : List Sl} (h : Dt w g xs) (h0 : 0 < xs.length) : g < w.heap.size := by
  have := h.cells 0 _ (List.getElem?_eq_getElem h0)
  exact cell_lt this
theorem Dt.below {w w' : World} {g : Nat} {xs : List Sl} (h : Dt w g xs) (hb : Below w.heap.size w w') : Dt w' g xs := by
  by_cases h0 : 0 < xs.length
  · have hg := h.lt h0
    exact ⟨fun j s hj => (hb.cell (p := ⟨g, j, none⟩) hg).trans (h.cells j s hj), fun j hj => (hb.frozen (p := ⟨g, j, none⟩) hg).trans (h.there j hj)⟩
  · have e : xs = [] := List.eq_nil_of_length_eq_zero (by omega)
    subst e
    exact ⟨fun j v hj => by simp at hj, fun j hj => by simp at hj⟩
theorem Dt.set {w : World} {g i : Nat} {xs : List Sl} (h : Dt w g xs) (s : Sl) (hi : i < xs.length) : Dt (w.setCell ⟨g, i, none⟩ (.slice s.A s.n s.c)) g (xs.set i s) := by
  refine ⟨fun j u hj => ?_, fun j hj => ?_⟩
  · have hc := h.cells i _ (List.getElem?_eq_getElem hi)
    by_cases e : i = j
    · subst e
      rw [List.getElem?_set_self hi] at hj
      injection hj with hj
      subst hj
      exact World.cell?_setCell_same' _ _ _ (by rw [hc]; rfl)
    · rw [List.getElem?_set_ne e] at hj
      refine Eq.trans (World.cell?_setCell_other (h := by intro h; injection h; omega) ..) (h.cells j u hj)
  · rw [List.length_set] at hj
    rw [World.frozen?_setCell]
    exact h.there j hj
/-- What was there is as it was, but for the row of block g. -/
structure Gr (g : Nat) (w w' : World) : Prop where
  os : w'.os = w.os
  tape : w'.tape = w.tape
  output : w'.output = w.output
  size : w.heap.size ≤ w'.heap.size
  block : ∀ k, k < w.heap.size → k ≠ g → w'.heap[k]? = w.heap[k]?
theorem Gr.refl (g : Nat) (w : World) : Gr g w w := ⟨rfl, rfl, rfl, Nat.le_refl _, fun _ _ _ => rfl⟩
theorem Gr.trans {g : Nat} {a b c : World} (h : Gr g a b) (k : Gr g b c) : Gr g a c :=
  ⟨k.os.trans h.os, k.tape.trans h.tape, k.output.trans h.output, Nat.le_trans h.size k.size, fun i hi hne => (k.block i (Nat.lt_of_lt_of_le hi h.size) hne).trans (h.block i hi hne)⟩
theorem Gr.below {g : Nat} {a b c : World} (h : Gr g a b) (k : Below b.heap.size b c) : Gr g a c :=
  h.trans ⟨k.os, k.tape, k.output, k.size, fun i hi _ => k.block i hi⟩
theorem Gr.set {g : Nat} {a b : World} (h : Gr g a b) (i : Nat) (v : Value) : Gr g a (b.setCell ⟨g, i, none⟩ v) :=
  h.trans ⟨rfl, rfl, rfl, by simp [World.setCell], fun k _ hne => Below.heap_setCell _ _ _ _ hne⟩
theorem Gr.out {g B : Nat} {a w w' : World} (hb : Below B a w) (h : Gr g w w') (hg : B ≤ g) (hw : B ≤ w.heap.size) : Below B a w' :=
  ⟨h.os.trans hb.os, h.tape.trans hb.tape, h.output.trans hb.output, Nat.le_trans hb.size h.size, fun k hk => (h.block k (by omega) (by omega)).trans (hb.block k hk)⟩
theorem Dt.swap {w : World} {g : Nat} {P M S : List Sl} {x y : Sl} (h : Dt w g (P ++ x :: (M ++ y :: S))) {i j : Nat} (hi : i = P.length) (hj : j = P.length + 1 + M.length) :
    Dt ((w.setCell ⟨g, i, none⟩ (.slice y.A y.n y.c)).setCell ⟨g, j, none⟩ (.slice x.A x.n x.c)) g (P ++ y :: (M ++ x :: S)) := by
  subst hi hj
  rw [← swap_at]
  exact (h.set y (by simp)).set x (by simp; omega)
theorem Dt.swap2 {w : World} {g : Nat} {P M S : List Sl} {x y : Sl} (h : Dt w g (P ++ x :: (M ++ y :: S))) {i j : Nat} (hi : i = P.length) (hj : j = P.length + 1 + M.length) :
    Dt ((w.setCell ⟨g, j, none⟩ (.slice x.A x.n x.c)).setCell ⟨g, i, none⟩ (.slice y.A y.n y.c)) g (P ++ y :: (M ++ x :: S)) := by
  subst hi hj
  rw [← swap_at, List.set_comm _ _ (by omega)]
  exact (h.set x (by simp; omega)).set y (by simp)
theorem Dt.two {w : World} {g : Nat} {P M S : List Sl} {x y : Sl} (h : Dt w g (P ++ x :: (M ++ y :: S))) {i j : Nat} (hi : i = P.length) (hj : j = P.length + 1 + M.length) :
    w.cell? ⟨g, i, none⟩ = some (.slice x.A x.n x.c) ∧ w.cell? ⟨g, j, none⟩ = some (.slice y.A y.n y.c) ∧ w.frozen? ⟨g, i, none⟩ = false ∧ w.frozen? ⟨g, j, none⟩ = false := by
  subst hi hj
  have h2 : Dt w g ((P ++ x :: M) ++ y :: S) := by rw [List.append_assoc]; exact h
  have a := h.at_
  have b := h2.at_
  have e : (P ++ x :: M).length = P.length + 1 + M.length := by simp; omega
  rw [e] at b
  exact ⟨a.1, b.1, a.2, b.2⟩
/-- Where the swaps of two ranges stand. -/
theorem rng_now {P X M Y S : List Sl} {k n : Nat} (hx : X.length = n) (hy : Y.length = n) (hk : k < n) :
    P ++ (Y.take k ++ X.drop k) ++ M ++ (X.take k ++ Y.drop k) ++ S = (P ++ Y.take k) ++ X[k] :: ((X.drop (k + 1) ++ M ++ X.take k) ++ Y[k] :: (Y.drop (k + 1) ++ S)) := by
  have e1 := List.drop_eq_getElem_cons (by omega : k < X.length)
  have e2 := List.drop_eq_getElem_cons (by omega : k < Y.length)
  rw [e1, e2]
  simp only [List.append_assoc, List.cons_append]
theorem rng_next {P X M Y S : List Sl} {k n : Nat} (hx : X.length = n) (hy : Y.length = n) (hk : k < n) :
    (P ++ Y.take k) ++ Y[k] :: ((X.drop (k + 1) ++ M ++ X.take k) ++ X[k] :: (Y.drop (k + 1) ++ S)) = P ++ (Y.take (k + 1) ++ X.drop (k + 1)) ++ M ++ (X.take (k + 1) ++ Y.drop (k + 1)) ++ S := by
  have e1 := List.take_succ_eq_append_getElem (by omega : k < X.length)
  have e2 := List.take_succ_eq_append_getElem (by omega : k < Y.length)
  rw [e1, e2]
  simp only [List.append_assoc, List.cons_append, List.nil_append]
set_option maxHeartbeats 4000000 in
theorem swapRange_any (g a b n c : Nat) (P X M Y S : List Sl) (F : Value) (w0 w : World) (hD : Dt w g (P ++ X ++ M ++ Y ++ S)) (hG : Gr g w0 w) (ha : a = P.length) (hx : X.length = n) (hb : b = a + n + M.length) (hy : Y.length = n)
    (N : Nat) (hN : N = (P ++ X ++ M ++ Y ++ S).length) (hm : N ≤ 140737488355328) :
    Calls Try.prog 118 #[.slice (some ⟨g, 0, none⟩) N c, .int .i64 a, .int .i64 b, .int .i64 n, F] w fun e w' => e = .returned (.tuple #[]) ∧ Dt w' g (P ++ Y ++ M ++ X ++ S) ∧ Gr g w0 w' := by
  have hl : a + n + M.length + n ≤ N := by rw [hN]; simp [ha, hx, hy]; omega
  have HD := Lib.hid hD
  have HG := Lib.hid hG
  clear hD hG
  have HN := Lib.hid hN
  have HA := Lib.hid ha
  have HB := Lib.hid hb
  have HX := Lib.hid hx
  have HY := Lib.hid hy
  clear hN ha hb hx hy
  go_enter Try.func118, Try.ntmps118
  go_wp2
  go_loopw [10] (fun i wr => ∃ k : Nat, i = .int .i64 k ∧ k ≤ n ∧ Dt wr g (P ++ (Y.take k ++ X.drop k) ++ M ++ (X.take k ++ Y.drop k) ++ S) ∧ Gr g w0 wr) (fun i _ => n - (intOf i).toNat)
  case atStart => exact ⟨0, rfl, by omega, by simpa using HD.out, HG.out⟩
  case round =>
    obtain ⟨k, rfl, hk, hD, hG⟩ := hrel
    have HG := Lib.hid hG
    clear hG
    by_cases hlt : k < n
    · rw [rng_now HX.out HY.out hlt] at hD
      have HD := Lib.hid hD
      have e1 : a + k = (P ++ Y.take k).length := by have := HA.out; have := HY.out; simp; omega
      have e2 : b + k = (P ++ Y.take k).length + 1 + (X.drop (k + 1) ++ M ++ X.take k).length := by have := HA.out; have := HB.out; have := HX.out; have := HY.out; simp; omega
      obtain ⟨c1, c2, f1, f2⟩ := hD.two e1 e2
      have HE1 := Lib.hid e1
      have HE2 := Lib.hid e2
      clear hD e1 e2
      have hne : a + k ≠ b + k := by have := HE1.out; have := HE2.out; omega
      have HNX := Lib.hid (rng_next (P := P) (X := X) (M := M) (Y := Y) (S := S) HX.out HY.out hlt)
      generalize X[k]'(by have := HX.out; omega) = x at c1 HD HNX
      generalize Y[k]'(by have := HY.out; omega) = y at c2 HD HNX
      have hbl : b + k < N := by have := HB.out; omega
      have w1 : IntKind.i64.wrap ((a : Int) + (k : Int)) = (a : Int) + (k : Int) := by rw [IntKind.wrap_i64]; omega
      have w2 : IntKind.i64.wrap ((b : Int) + (k : Int)) = (b : Int) + (k : Int) := by rw [IntKind.wrap_i64]; omega
      have l2 : (b : Int) + (k : Int) < (N : Int) := by omega
      have l1 : (a : Int) + (k : Int) < (N : Int) := by have := HE1.out; have := HE2.out; omega
      have n1 : 0 ≤ (a : Int) + (k : Int) := by omega
      have n2 : 0 ≤ (b : Int) + (k : Int) := by omega
      have t1 : ((a : Int) + (k : Int)).toNat = a + k := by omega
      have t2 : ((b : Int) + (k : Int)).toNat = b + k := by omega
      go_upto_region 3 with fail
      go_region
      have HDS := Lib.hid ((HD.out.swap HE1.out HE2.out).below (Below.refl _ _).drew)
      rw [HNX.out] at HDS
      have HGS := Lib.hid (((HG.out.set (a + k) (.slice y.A y.n y.c)).set (b + k) (.slice x.A x.n x.c)).below (Below.refl _ _).drew)
      clear w1 w2 l1 l2 n1 n2 t1 t2 c1 c2 f1 f2 HD HG HNX HE1 HE2
      generalize ((wr.setCell ⟨g, a + k, none⟩ (.slice y.A y.n y.c)).setCell ⟨g, b + k, none⟩ (.slice x.A x.n x.c)).drew = w5 at HDS HGS ⊢
      go_wp2
      go_roundw
      case rel => exact ⟨k + 1, by go_num, hlt, HDS.out, HGS.out⟩
      case measure => simp [intOf]; omega
    · obtain rfl : k = n := by omega
      go_wp2
      go_end0
      refine ⟨rfl, ?_, HG.out⟩
      have h1 := List.take_of_length_le (Nat.le_of_eq HX.out)
      have h2 := List.take_of_length_le (Nat.le_of_eq HY.out)
      have h3 := List.drop_eq_nil_of_le (Nat.le_of_eq HX.out)
      have h4 := List.drop_eq_nil_of_le (Nat.le_of_eq HY.out)
      rw [h1, h2, h3, h4, List.append_nil, List.append_nil] at hD
      exact hD
end Go.Proofs.Ytddeaiciochggaa.So
