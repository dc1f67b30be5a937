/- Whether two expressions are one: the walks of SameExpr and SameExprs. Conditions: expressions that are read in memory. -/
import Derived.Test.YtnbgnofbeklmkaaGreatDoorTa
import Derived.Test.YtnbgnofbeklmkaaGreatDoorProg
namespace Go.Proofs.YtnbgnofbeklmkaaGreatDoor
open Go.RowKit
set_option linter.unusedSimpArgs false
set_option linter.unusedVariables false

noncomputable def eqX {α : Type} (x y : α) : Bool := (Classical.propDecidable (x = y)).decide
theorem eqX_iff {α : Type} {x y : α} : eqX x y = true ↔ x = y := by
  unfold eqX
  exact @decide_eq_true_iff _ (Classical.propDecidable (x = y))
theorem eqX_no {α : Type} {x y : α} : eqX x y = false ↔ ¬ x = y := by
  rw [← eqX_iff (x := x)]; simp

def eqV (a b : Vl) : Bool := (a.k == b.k) && ((a.n == b.n) && (a.s.toList == b.s.toList))
theorem stoodV : Tryz.prog.stoodInHeld 49 = false := by kernel_rfl
theorem underV : Tryz.prog.underlying 49 = some (.struct (Tryz.prog.fieldsOf 49)) := by simp only [Program.fieldsOf, Tryz.underlying49]
theorem guardV : Tryz.prog.eqGuardType Tryz.prog.depth 49 = false := by kernel_rfl
theorem run_eqV (a b : Vl) (w : World) : (binOp .eql 49 (.agg #[.int .i64 a.k, .int .i64 a.n, .string a.s]) (.agg #[.int .i64 b.k, .int .i64 b.n, .string b.s])).run Tryz.prog w = .ok (.bool (eqV a b)) w := by
  rw [run_eql_struct, run_equalIn_agg w 9999 49 _ _ underV stoodV]
  simp [go_sem, eqV, Tryz.underlying49]
  by_cases h1 : a.k = b.k <;> by_cases h2 : a.n = b.n <;> by_cases h3 : a.s.toList = b.s.toList <;> simp [h1, h2, h3]
theorem eqV_iff {a b : Vl} : eqV a b = true ↔ a = b := by
  obtain ⟨a0, a1, a2, _⟩ := a
  obtain ⟨b0, b1, b2, _⟩ := b
  simp [eqV, ba_iff]

/-- What SameExpr asks, in its order. -/
theorem eqX_ex {α : Type} (x y : ExN α) : eqX x y = ((x.op == y.op) && eqV x.v y.v && (x.t.toList == y.t.toList) && (x.m.toList == y.m.toList) && eqX x.l y.l) := by
  rw [Bool.eq_iff_iff, eqX_iff]
  simp only [Bool.and_eq_true, beq_iff_eq, eqV_iff, eqX_iff, ba_iff]
  obtain ⟨op, v, t, m, l⟩ := x
  obtain ⟨op', v', t', m', l'⟩ := y
  simp [and_assoc]

set_option maxHeartbeats 1000000 in
set_option maxRecDepth 100000 in
theorem sameExpr_of {α : Type} (x y : ExN α) (a a' : Option Addr) (c c' : Nat) (w : World) (hL : ∀ w', Below w.heap.size w w' → Calls Tryz.prog 51 #[.slice a x.l.length c, .slice a' y.l.length c'] w' fun e w'' => e = .returned (.bool (eqX x.l y.l)) ∧ Below w'.heap.size w' w'') :
    Calls Tryz.prog 28 #[x.val a c, y.val a' c'] w fun e w' => e = .returned (.bool (eqX x y)) ∧ Below w.heap.size w w' := by
  rw [eqX_ex]
  obtain ⟨op, ⟨k, n, s, hv⟩, t, m, l⟩ := x
  obtain ⟨op', ⟨k', n', s', hv'⟩, t', m', l'⟩ := y
  unfold ExN.val
  have HL := Lib.hid hL
  clear hL
  dsimp only at HL ⊢
  generalize eqX l l' = B at *
  have heq := run_eqV ⟨k, n, s, hv⟩ ⟨k', n', s', hv'⟩
  dsimp only at heq
  generalize eqV ⟨k, n, s, hv⟩ ⟨k', n', s', hv'⟩ = E at *
  go_enter Tryz.func28, Tryz.ntmps28
  go_wp2_with (go_at_call 51; refine (HL.out _ (below2 _ _ _)).mono ?_; rintro e w1 ⟨rfl, hb⟩; have hb := below_of2 hb)
  all_goals go_ret
  all_goals simp only [beq_iff_eq, beq_eq_false_iff_ne, ne_eq] at *
  all_goals refine ⟨ret_bool ?_, ?_⟩
  all_goals first | assumption | exact below2 _ _ _ | grind

set_option maxHeartbeats 400000 in
theorem sameExprs_len (A B : Option Addr) (n m c d : Nat) (w : World) (h : ((n : Int) == m) = false) :
    Calls Tryz.prog 51 #[.slice A n c, .slice B m d] w fun e w' => e = .returned (.bool false) ∧ w = w' := by
  go_enter Tryz.func51, Tryz.ntmps51
  go_wp2
  go_ret
  exact ⟨rfl, rfl⟩

set_option maxHeartbeats 1000000 in
set_option maxRecDepth 100000 in
theorem sameExprs_eq {n : Nat} (hE : ∀ (x y : Ar n) (a a' : Option Addr) (c c' : Nat) (w : World), RdE w (n - 1) a c x.e.l → RdE w (n - 1) a' c' y.e.l → Calls Tryz.prog 28 #[x.e.val a c, y.e.val a' c'] w fun e w' => e = .returned (.bool (eqX x y)) ∧ Below w.heap.size w w')
    (A B : Option Addr) (k c d : Nat) (l m : List (Ar n)) (w : World) (hl : k = l.length) (hm : k = m.length) (rl : RdE w n A c l) (rm : RdE w n B d m) :
    Calls Tryz.prog 51 #[.slice A k c, .slice B k d] w fun e w' => e = .returned (.bool (eqX l m)) ∧ Below w.heap.size w w' := by
  have hk : k ≤ 9223372036854775807 := by have := rl.hdr.2; omega
  have RL := Lib.hid rl
  have RM := Lib.hid rm
  have HL := Lib.hid hl
  have HM := Lib.hid hm
  have HE := Lib.hid hE
  clear rl rm hl hm hE
  go_enter Tryz.func51, Tryz.ntmps51
  go_wp2_with fail
  go_loopw [4, 5] (fun r i wr => ∃ j : Nat, j ≤ k ∧ i = .int .i64 j ∧ l.take j = m.take j ∧ Below w.heap.size w wr) (fun _ i _ => k - (intOf i).toNat)
  case atStart => exact ⟨0, by omega, rfl, rfl, Below.refl _ _⟩
  case round =>
    obtain ⟨j, hj, rfl, ht, hB⟩ := hrel
    have HT := Lib.hid ht
    have HB := Lib.hid hB
    clear ht hB
    by_cases hlt : j < k
    · obtain ⟨ad, a1, c1, rfl, ⟨p0, p1, p2, p3, p4, p5, p6⟩, r1⟩ := (RL.out.below (KE_ok n) HB.out).at_ (j := j) (by have := HL.out; omega)
      obtain ⟨bd, a2, c2, rfl, ⟨q0, q1, q2, q3, q4, q5, q6⟩, r2⟩ := (RM.out.below (KE_ok n) HB.out).at_ (j := j) (by have := HM.out; omega)
      have lj : j < l.length := by have := HL.out; omega
      have mj : j < m.length := by have := HM.out; omega
      have hx : l[j]? = some l[j] := List.getElem?_eq_getElem lj
      have hy : m[j]? = some m[j] := List.getElem?_eq_getElem mj
      generalize l[j] = x at p0 p1 p2 p3 p4 p5 p6 r1 hx
      generalize m[j] = y at q0 q1 q2 q3 q4 q5 q6 r2 hy
      have HX := Lib.hid hx
      have HY := Lib.hid hy
      have R1 := Lib.hid r1
      have R2 := Lib.hid r2
      clear hx hy r1 r2
      go_wp2_with fail
      go_still_tail 8, (by kernel_rfl)
      change wpList _ _ _ _ _ wr.drew
      have HB := Lib.hid HB.out.drew
      have R1 : Hid (RdE wr.drew (n - 1) a1 c1 x.e.l) := R1.out.below (KE_ok _) (Below.refl _ wr).drew
      have R2 : Hid (RdE wr.drew (n - 1) a2 c2 y.e.l) := R2.out.below (KE_ok _) (Below.refl _ wr).drew
      generalize wr.drew = w2 at *
      have hc := HE.out x y a1 a2 c1 c2 w2 R1.out R2.out
      clear HE p0 p1 p2 p3 p4 p5 p6 q0 q1 q2 q3 q4 q5 q6 R1 R2
      cases he : eqX x y
      · rw [he] at hc
        rw [eqX_no] at he
        have HN := Lib.hid he
        clear he
        go_wp2_with (go_at_call 28; refine hc.mono ?_; rintro e w3 ⟨rfl, hb⟩; have HB3 := Lib.hid (below_call hb HB.out HB.out.size); clear hb)
        go_ret
        refine ⟨ret_bool (Eq.symm (eqX_no.2 fun h => HN.out ?_)), HB3.out⟩
        subst h
        exact Option.some.inj (HX.out.symm.trans HY.out)
      · rw [he] at hc
        rw [eqX_iff] at he
        have HN := Lib.hid he
        clear he
        go_wp2_with (go_at_call 28; refine hc.mono ?_; rintro e w3 ⟨rfl, hb⟩; have HB3 := Lib.hid (below_call hb HB.out HB.out.size); clear hb)
        go_roundw
        case rel =>
          refine ⟨j + 1, by omega, by go_num, ?_, HB3.out⟩
          rw [List.take_add_one, List.take_add_one, HX.out, HY.out, HT.out, HN.out]
        case measure => simp [intOf]; omega
    · have h1 : l.take j = l := List.take_of_length_le (by have := HL.out; omega)
      have h2 : m.take j = m := List.take_of_length_le (by have := HM.out; omega)
      have HN : Hid (l = m) := by
        show l = m
        rw [← h1, ← h2]; exact HT.out
      clear h1 h2
      go_wp2
      go_ret
      exact ⟨ret_bool (Eq.symm (eqX_iff.2 HN.out)), HB.out⟩

theorem sameExprs_of {n : Nat} (hE : ∀ (x y : Ar n) (a a' : Option Addr) (c c' : Nat) (w : World), RdE w (n - 1) a c x.e.l → RdE w (n - 1) a' c' y.e.l → Calls Tryz.prog 28 #[x.e.val a c, y.e.val a' c'] w fun e w' => e = .returned (.bool (eqX x y)) ∧ Below w.heap.size w w')
    (A B : Option Addr) (c d : Nat) (l m : List (Ar n)) (w : World) (rl : RdE w n A c l) (rm : RdE w n B d m) :
    Calls Tryz.prog 51 #[.slice A l.length c, .slice B m.length d] w fun e w' => e = .returned (.bool (eqX l m)) ∧ Below w.heap.size w w' := by
  by_cases h : l.length = m.length
  · have := sameExprs_eq hE A B l.length c d l m w rfl h rl rm
    rw [h] at this ⊢
    exact this
  · refine (sameExprs_len A B l.length m.length c d w (by simp; omega)).mono fun e w' ⟨h1, h2⟩ => ⟨?_, by subst h2; exact Below.refl _ _⟩
    rw [h1, eqX_no.2 (fun e => h (by rw [e]))]
theorem sameExprs_any : ∀ (n : Nat) (A B : Option Addr) (c d : Nat) (l m : List (Ar n)) (w : World), RdE w n A c l → RdE w n B d m →
    Calls Tryz.prog 51 #[.slice A l.length c, .slice B m.length d] w fun e w' => e = .returned (.bool (eqX l m)) ∧ Below w.heap.size w w'
  | 0, A, B, c, d, l, m, w, rl, rm => sameExprs_of (n := 0) (fun (x : Ar 0) => Empty.elim x) A B c d l m w rl rm
  | n + 1, A, B, c, d, l, m, w, rl, rm => sameExprs_of (n := n + 1) (fun (x y : ExN (Ar n)) a a' c c' w h1 h2 => sameExpr_of (α := Ar n) x y a a' c c' w fun w' hb => sameExprs_any n a a' c c' _ _ w' (h1.below (KE_ok n) hb) (h2.below (KE_ok n) hb)) A B c d l m w rl rm
theorem sameExpr_any {n : Nat} (x y : ExN (Ar n)) (a a' : Option Addr) (c c' : Nat) (w : World) (h1 : RdE w n a c x.l) (h2 : RdE w n a' c' y.l) :
    Calls Tryz.prog 28 #[x.val a c, y.val a' c'] w fun e w' => e = .returned (.bool (eqX x y)) ∧ Below w.heap.size w w' :=
  sameExpr_of x y a a' c c' w fun w' hb => sameExprs_any n a a' c c' _ _ w' (h1.below (KE_ok n) hb) (h2.below (KE_ok n) hb)
end Go.Proofs.YtnbgnofbeklmkaaGreatDoor
