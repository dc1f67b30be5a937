/- What draw of package ssi makes of a list, and who is to be given up: the walks. Conditions: a row that may be written, two places in it, of which none was given up. -/
import Derived.Test.YtlcmpngjmmbkcaaVg
namespace Go.Proofs.Ytlcmpngjmmbkcaa
open Go.RowKit Go.Sort Go.Maps Go.ChangeMaps Go.MapKept Go.WideShapes
set_option linter.unusedSimpArgs false
set_option linter.unusedVariables false

theorem grown_refl (w : World) (r : Option Nat) : w.grownBy w r := ⟨rfl, rfl, rfl, Nat.le_refl _, fun _ _ _ => rfl⟩
theorem grown_trans {a b c : World} {r : Option Nat} (h1 : a.grownBy b r) (h2 : b.grownBy c r) : a.grownBy c r :=
  ⟨h2.os.trans h1.os, h2.tape.trans h1.tape, h2.output.trans h1.output, Nat.le_trans h1.size h2.size, fun k hk hne => (h2.block k (Nat.lt_of_lt_of_le hk h1.size) hne).trans (h1.block k hk hne)⟩
theorem grown_below {a b : World} (h : Below a.heap.size a b) (r : Option Nat) : a.grownBy b r := ⟨h.os, h.tape, h.output, h.size, fun k hk _ => h.block k hk⟩
theorem grown_setCell (w : World) (g o : Nat) (v : Value) : w.grownBy (w.setCell ⟨g, o, none⟩ v) (some g) :=
  ⟨rfl, rfl, rfl, by simp, fun k _ hk => heap_setCell_other w ⟨g, o, none⟩ k v (fun e => hk (by simp [e]))⟩
theorem grown_setCells (g : Nat) : ∀ (vs : List Value) (o : Nat) (w : World), w.grownBy (w.setCells g o vs) (some g)
  | [], _, w => grown_refl w _
  | v :: r, o, w => grown_trans (grown_setCell w g o v) (grown_setCells g r (o + 1) _)
/-- What is written in a block of the call's own is nothing to those before it. -/
theorem grown_new {a b c : World} {g k : Nat} (h1 : a.grownBy b (some g)) (h2 : b.grownBy c (some k)) (hk : a.heap.size ≤ k) : a.grownBy c (some g) :=
  ⟨h2.os.trans h1.os, h2.tape.trans h1.tape, h2.output.trans h1.output, Nat.le_trans h1.size h2.size, fun i hi hne => (h2.block i (Nat.lt_of_lt_of_le hi h1.size) (fun e => by injection e with e; omega)).trans (h1.block i hi hne)⟩
theorem cell_of_grown {w w' : World} {k : Nat} {p : Addr} {v : Value} (hg : w.grownBy w' (some k)) (hp : p.block ≠ k) (h : w.cell? p = some v) : w'.cell? p = some v :=
  (World.cell?_of_block (hg.block p.block (cell_lt h) (fun e => hp (by injection e)))).trans h
theorem set_other {w w' : World} {b k : Nat} {M : List Int} (h : IsSet w b M) (hg : w.grownBy w' (some k)) (hne : b ≠ k) : IsSet w' b M :=
  World.ownsMap.kept h hg (fun e => hne (by injection e))

def fO (x : Tx) : Tx := ⟨x.i, x.s, x.e, x.a, true⟩
def fI (x : Tx) : Tx := ⟨x.i, x.s, x.e, true, x.o⟩
/-- One flag set: the list, and who is to be given up. -/
def rnd (f : Tx → Tx) (p q : Nat) (z : List Tx × List Int) : List Tx × List Int :=
  match z.1[p]?, z.1[q]? with
  | some x, some y => if ((f x).a && (f x).o) = true then (if 0 < x.e then (z.1, if y.e = 0 then y.i :: z.2 else z.2) else (z.1.set p (f x), x.i :: z.2)) else (z.1.set p (f x), z.2)
  | _, _ => z
/-- Draw's frame: the boxes of its own, the row, and who was met. -/
structure D (w : World) (g n P Q p0 p1 p2 p3 : Nat) (W : World) (z : List Tx × List Int) : Prop where
  cl : W.cell? ⟨p0, 0, none⟩ = some (.slice (some ⟨g, 0, none⟩) n n)
  cp : W.cell? ⟨p1, 0, none⟩ = some (.int .i64 P)
  cq : W.cell? ⟨p1, 1, none⟩ = some (.int .i64 Q)
  s0 : W.cell? ⟨p2, 0, none⟩ = some (.func (.func 29) #[] #[.pointer (some ⟨p0, 0, none⟩), .pointer (some ⟨p1, 0, none⟩)])
  s1 : W.cell? ⟨p2, 1, none⟩ = some (.func (.func 30) #[] #[.pointer (some ⟨p0, 0, none⟩), .pointer (some ⟨p1, 0, none⟩)])
  row : Row W g z.1
  met : IsSet W p3 z.2
  own : w.grownBy W (some g)
  hg : g < w.heap.size
  lo : w.heap.size ≤ p0 ∧ w.heap.size ≤ p1 ∧ w.heap.size ≤ p2 ∧ w.heap.size ≤ p3
  ne : p0 ≠ p3 ∧ p1 ≠ p3 ∧ p2 ≠ p3
section
variable {w W W' : World} {g n P Q p0 p1 p2 p3 : Nat} {z : List Tx × List Int}
theorem D.below (h : D w g n P Q p0 p1 p2 p3 W z) (hb : Below W.heap.size W W') : D w g n P Q p0 p1 p2 p3 W' z :=
  ⟨cell_keep h.cl hb, cell_keep h.cp hb, cell_keep h.cq hb, cell_keep h.s0 hb, cell_keep h.s1 hb, h.row.below hb, set_below h.met hb, grown_trans h.own (grown_below hb _), h.hg, h.lo, h.ne⟩
theorem D.write (h : D w g n P Q p0 p1 p2 p3 W z) (hw : W.grownBy W' (some g)) {m : List Tx} (hr : Row W' g m) : D w g n P Q p0 p1 p2 p3 W' (m, z.2) := by
  have hg := h.hg
  have hl := h.lo
  exact ⟨cell_of_grown hw (by show p0 ≠ g; omega) h.cl, cell_of_grown hw (by show p1 ≠ g; omega) h.cp, cell_of_grown hw (by show p1 ≠ g; omega) h.cq, cell_of_grown hw (by show p2 ≠ g; omega) h.s0, cell_of_grown hw (by show p2 ≠ g; omega) h.s1, hr, set_other h.met hw (by omega), grown_trans h.own hw, hg, hl, h.ne⟩
theorem D.put (h : D w g n P Q p0 p1 p2 p3 W z) {i : Int} (hs : IsSet W' p3 (i :: z.2)) (hw : W.grownBy W' (some p3)) : D w g n P Q p0 p1 p2 p3 W' (z.1, i :: z.2) := by
  have hg := h.hg
  have hl := h.lo
  have hne := h.ne
  exact ⟨cell_of_grown hw (by show p0 ≠ _; omega) h.cl, cell_of_grown hw (by show p1 ≠ _; omega) h.cp, cell_of_grown hw (by show p1 ≠ _; omega) h.cq, cell_of_grown hw (by show p2 ≠ _; omega) h.s0, cell_of_grown hw (by show p2 ≠ _; omega) h.s1,
    (by
      by_cases h0 : 0 < z.1.length
      · exact h.row.same (hw.block g (h.row.lt h0) (fun e => by injection e with e; omega))
      · have e : z.1 = [] := List.eq_nil_of_length_eq_zero (by omega)
        exact ⟨fun j v hj => by rw [e] at hj; simp [txs] at hj, fun j hj => by rw [e] at hj; simp at hj⟩), hs, grown_new h.own hw (by omega), hg, hl, hne⟩
/-- The cells of one of the row. -/
theorem D.txn (h : D w g n P Q p0 p1 p2 p3 W z) {j : Nat} {x : Tx} (hx : z.1[j]? = some x) : W.cell? ⟨g, j * 5, none⟩ = some (.int .i64 x.i) ∧ W.cell? ⟨g, j * 5 + 1, none⟩ = some (.int .i64 x.s) ∧ W.cell? ⟨g, j * 5 + 2, none⟩ = some (.int .i64 x.e) ∧ W.cell? ⟨g, j * 5 + 3, none⟩ = some (.bool x.a) ∧ W.cell? ⟨g, j * 5 + 4, none⟩ = some (.bool x.o) ∧ g < W.heap.size := by
  have hj := (List.getElem?_eq_some_iff.1 hx).1
  obtain ⟨c0, c1, c2, c3, c4⟩ := h.row.cell5 hx
  exact ⟨c0, c1, c2, c3, c4, h.row.lt (by omega)⟩
theorem D.free (h : D w g n P Q p0 p1 p2 p3 W z) {j : Nat} {x : Tx} (hx : z.1[j]? = some x) : W.frozen? ⟨g, j * 5, none⟩ = false ∧ W.frozen? ⟨g, j * 5 + 1, none⟩ = false ∧ W.frozen? ⟨g, j * 5 + 2, none⟩ = false ∧ W.frozen? ⟨g, j * 5 + 3, none⟩ = false ∧ W.frozen? ⟨g, j * 5 + 4, none⟩ = false := by
  have hj := (List.getElem?_eq_some_iff.1 hx).1
  exact ⟨h.row.free (k := 0) hj (by omega), h.row.free (k := 1) hj (by omega), h.row.free (k := 2) hj (by omega), h.row.free (k := 3) hj (by omega), h.row.free (k := 4) hj (by omega)⟩
end
set_option maxHeartbeats 2000000 in
theorem flag0_any (w : World) (g n P Q p0 p1 p2 p3 : Nat) (W : World) (z : List Tx × List Int) (hD : D w g n P Q p0 p1 p2 p3 W z) (x : Tx) (hx : z.1[P]? = some x) (hn : z.1.length = n) (hn2 : n ≤ 1000000) :
    Calls Try.prog 29 #[.pointer (some ⟨p0, 0, none⟩), .pointer (some ⟨p1, 0, none⟩)] W fun e W' => e = .returned (.tuple #[]) ∧ D w g n P Q p0 p1 p2 p3 W' (z.1.set P (fO x), z.2) ∧ W.grownBy W' (some g) := by
  have hlt := (List.getElem?_eq_some_iff.1 hx).1
  have HD := Lib.hid hD
  have c0 := hD.cl
  have c1 := hD.cp
  have l0 := cell_lt c0
  have l1 := cell_lt c1
  obtain ⟨r0, r1, r2, r3, r4, f0, f1, f2, f3, f4⟩ := hD.row.at_ hlt
  have hgl := hD.row.lt (by omega)
  have h1 : P < n := by omega
  have h2 : (P : Int) < (n : Int) := by omega
  have h3 : (P : Int) < 9223372036854775807 := by omega
  clear hD
  go_enter Try.func29, Try.ntmps29
  go_wp2_with fail
  go_end0
  exact ⟨rfl, HD.out.write (grown_setCell W g _ _) (HD.out.row.putu x (fO x) hx 4 (by omega) (.bool true) rfl (fun r hr => by
    rcases (show r = 0 ∨ r = 1 ∨ r = 2 ∨ r = 3 ∨ 5 ≤ r by omega) with rfl | rfl | rfl | rfl | h
    · rfl
    · rfl
    · rfl
    · rfl
    · rw [List.getElem?_eq_none (by simp; omega), List.getElem?_eq_none (by simp; omega)])), grown_setCell W g _ _⟩
set_option maxHeartbeats 2000000 in
theorem flag1_any (w : World) (g n P Q p0 p1 p2 p3 : Nat) (W : World) (z : List Tx × List Int) (hD : D w g n P Q p0 p1 p2 p3 W z) (x : Tx) (hx : z.1[Q]? = some x) (hn : z.1.length = n) (hn2 : n ≤ 1000000) :
    Calls Try.prog 30 #[.pointer (some ⟨p0, 0, none⟩), .pointer (some ⟨p1, 0, none⟩)] W fun e W' => e = .returned (.tuple #[]) ∧ D w g n P Q p0 p1 p2 p3 W' (z.1.set Q (fI x), z.2) ∧ W.grownBy W' (some g) := by
  have hlt := (List.getElem?_eq_some_iff.1 hx).1
  have HD := Lib.hid hD
  have c0 := hD.cl
  have c1 := hD.cq
  have l0 := cell_lt c0
  have l1 := cell_lt c1
  obtain ⟨r0, r1, r2, r3, r4, f0, f1, f2, f3, f4⟩ := hD.row.at_ hlt
  have hgl := hD.row.lt (by omega)
  have h1 : Q < n := by omega
  have h2 : (Q : Int) < (n : Int) := by omega
  have h3 : (Q : Int) < 9223372036854775807 := by omega
  clear hD
  go_enter Try.func30, Try.ntmps30
  go_wp2_with fail
  go_end0
  exact ⟨rfl, HD.out.write (grown_setCell W g _ _) (HD.out.row.putu x (fI x) hx 3 (by omega) (.bool true) rfl (fun r hr => by
    rcases (show r = 0 ∨ r = 1 ∨ r = 2 ∨ r = 4 ∨ 5 ≤ r by omega) with rfl | rfl | rfl | rfl | h
    · rfl
    · rfl
    · rfl
    · rfl
    · rw [List.getElem?_eq_none (by simp; omega), List.getElem?_eq_none (by simp; omega)])), grown_setCell W g _ _⟩
end Go.Proofs.Ytlcmpngjmmbkcaa
