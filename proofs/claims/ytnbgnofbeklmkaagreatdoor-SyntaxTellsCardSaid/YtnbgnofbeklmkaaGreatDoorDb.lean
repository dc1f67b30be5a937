/- Whether two lists are one, by the program: rows, sets, columns, orders. Conditions: lists that are read in memory. -/
import Derived.Test.YtnbgnofbeklmkaaGreatDoorDa
namespace Go.Proofs.YtnbgnofbeklmkaaGreatDoor
open Go.RowKit
set_option linter.unusedSimpArgs false
set_option linter.unusedVariables false

theorem below_drewN {B : Nat} {a w : World} (h : Below B a w) (n : Nat) : Below B a (w.drewN n) := ⟨h.os, h.tape, h.output, h.size, h.block⟩
theorem eqX_congr {α β : Type} {x y : α} {a b : β} (h : x = y ↔ a = b) : eqX x y = eqX a b := by
  rw [Bool.eq_iff_iff, eqX_iff, eqX_iff, h]
def eqC (a b : Cl) : Bool := (a.m.toList == b.m.toList) && ((a.k == b.k) && (a.nn == b.nn))
def eqO (a b : Od) : Bool := (a.n == b.n) && (a.d == b.d)
theorem stoodC : Tryz.prog.stoodInHeld 82 = false := by kernel_rfl
theorem underC : Tryz.prog.underlying 82 = some (.struct (Tryz.prog.fieldsOf 82)) := by simp only [Program.fieldsOf, Tryz.underlying82]
theorem stoodO : Tryz.prog.stoodInHeld 85 = false := by kernel_rfl
theorem underO : Tryz.prog.underlying 85 = some (.struct (Tryz.prog.fieldsOf 85)) := by simp only [Program.fieldsOf, Tryz.underlying85]
theorem eqC_X (a b : Cl) : eqC a b = eqX a b := by
  rw [Bool.eq_iff_iff, eqX_iff]
  obtain ⟨a0, a1, a2⟩ := a
  obtain ⟨b0, b1, b2⟩ := b
  simp [eqC, ba_iff]
theorem eqO_X (a b : Od) : eqO a b = eqX a b := by
  rw [Bool.eq_iff_iff, eqX_iff]
  obtain ⟨a0, a1⟩ := a
  obtain ⟨b0, b1⟩ := b
  simp [eqO]
theorem run_neC (a b : Cl) (w : World) : (binOp .neq 82 (.agg #[.string a.m, .int .i64 a.k, .bool a.nn]) (.agg #[.string b.m, .int .i64 b.k, .bool b.nn])).run Tryz.prog w = .ok (.bool (!(eqX a b))) w := by
  rw [← eqC_X, run_neq_struct, run_equalIn_agg w 9999 82 _ _ underC stoodC]
  simp [go_sem, eqC, Tryz.underlying82]
  by_cases h1 : a.k = b.k <;> by_cases h2 : a.nn = b.nn <;> by_cases h3 : a.m.toList = b.m.toList <;> simp [h1, h2, h3]
theorem run_neO (a b : Od) (w : World) : (binOp .neq 85 (.agg #[.int .i64 a.n, .bool a.d]) (.agg #[.int .i64 b.n, .bool b.d])).run Tryz.prog w = .ok (.bool (!(eqX a b))) w := by
  rw [← eqO_X, run_neq_struct, run_equalIn_agg w 9999 85 _ _ underO stoodO]
  simp [go_sem, eqO, Tryz.underlying85]
  by_cases h1 : a.n = b.n <;> by_cases h2 : a.d = b.d <;> simp [h1, h2]

set_option maxHeartbeats 1000000 in
set_option maxRecDepth 100000 in
theorem ssameSet_any {n : Nat} (x y : Sx n) (a a' : Option Addr) (c c' : Nat) (w : World) (h1 : RdE w n a c x.x.l) (h2 : RdE w n a' c' y.x.l) :
    Calls Tryz.prog 58 #[x.val a c, y.val a' c'] w fun e w' => e = .returned (.bool (eqX x y)) ∧ Below w.heap.size w w' := by
  have hE := fun w' (hb : Below w.heap.size w w') => ssameExpr_any x.x y.x a a' c c' w' (h1.below (KE_ok n) hb) (h2.below (KE_ok n) hb)
  have hx : eqX x y = ((x.m.toList == y.m.toList) && eqX x.x y.x) := by
    rw [Bool.eq_iff_iff, eqX_iff]
    simp only [Bool.and_eq_true, beq_iff_eq, eqX_iff, ba_iff]
    obtain ⟨m, x⟩ := x
    obtain ⟨m', y⟩ := y
    simp
  rw [hx]
  clear hx h1 h2
  obtain ⟨mm, ⟨op, ⟨k, v, s, hv⟩, t, m, l⟩⟩ := x
  obtain ⟨mm', ⟨op', ⟨k', v', s', hv'⟩, t', m', l'⟩⟩ := y
  unfold Sx.val
  unfold ExN.val at hE
  dsimp only at hE ⊢
  have HE := Lib.hid hE
  clear hE
  generalize eqX (⟨op, ⟨k, v, s, hv⟩, t, m, l⟩ : ExN (Ar n)) ⟨op', ⟨k', v', s', hv'⟩, t', m', l'⟩ = E at *
  go_enter Tryz.func58, Tryz.ntmps58
  go_wp2_with (go_at_call 98; refine (HE.out _ (below2 _ _ _)).mono ?_; rintro e w1 ⟨rfl, hb⟩; have hb := below_of2 hb)
  all_goals go_ret
  all_goals simp only [beq_iff_eq, beq_eq_false_iff_ne, ne_eq] at *
  all_goals refine ⟨ret_bool ?_, ?_⟩
  all_goals first | assumption | exact below2 _ _ _ | grind

set_option maxHeartbeats 400000 in
theorem seqRows_len (A B : Option Addr) (n m c d : Nat) (w : World) (h : ((n : Int) != m) = true) :
    Calls Tryz.prog 55 #[.slice A n c, .slice B m d, .func (.func 56) #[] #[]] w fun e w' => e = .returned (.bool false) ∧ w = w' := by
  go_enter Tryz.func55, Tryz.ntmps55
  go_wp2
  go_ret
  exact ⟨rfl, rfl⟩

set_option maxHeartbeats 1000000 in
set_option maxRecDepth 100000 in
theorem seqRows_eq {n : Nat} (A B : Option Addr) (k c d : Nat) (l m : List (List (Ar n))) (w : World) (hl : k = l.length) (hm : k = m.length) (rl : RdK (KR n) Any w A c l) (rm : RdK (KR n) Any w B d m) :
    Calls Tryz.prog 55 #[.slice A k c, .slice B k d, .func (.func 56) #[] #[]] w fun e w' => e = .returned (.bool (eqX l m)) ∧ Below w.heap.size w w' := by
  have hk : k ≤ 9223372036854775807 := by have := rl.hdr.2; omega
  have RL := Lib.hid rl
  have RM := Lib.hid rm
  have HL := Lib.hid hl
  have HM := Lib.hid hm
  clear rl rm hl hm
  go_enter Tryz.func55, Tryz.ntmps55
  go_wp2_with fail
  go_loopw [17] (fun i wr => ∃ j : Nat, j ≤ k ∧ i = .int .i64 j ∧ l.take j = m.take j ∧ Below w.heap.size w wr) (fun i _ => k - (intOf i).toNat)
  case atStart => exact ⟨0, by omega, rfl, rfl, Below.refl _ _⟩
  case round =>
    obtain ⟨j, hj, rfl, ht, hB⟩ := hrel
    have HT := Lib.hid ht
    have HB := Lib.hid hB
    clear ht hB
    by_cases hlt : j < k
    · obtain ⟨ad, a1, c1, rfl, p0, r1⟩ := (RL.out.below (KR_ok n) HB.out).row (j := j) (by have := HL.out; omega)
      obtain ⟨bd, a2, c2, rfl, q0, r2⟩ := (RM.out.below (KR_ok n) HB.out).row (j := j) (by have := HM.out; omega)
      have lj : j < l.length := by have := HL.out; omega
      have mj : j < m.length := by have := HM.out; omega
      have hx : l[j]? = some l[j] := List.getElem?_eq_getElem lj
      have hy : m[j]? = some m[j] := List.getElem?_eq_getElem mj
      generalize l[j] = x at p0 r1 hx
      generalize m[j] = y at q0 r2 hy
      have HX := Lib.hid hx
      have HY := Lib.hid hy
      have hc := ssameExprs_any n a1 a2 c1 c2 x y wr r1 r2
      clear r1 r2
      clear hx hy
      have hq := cell_lt q0
      have hq2 := hq
      rw [add_block] at hq2
      obtain ⟨E, he⟩ : ∃ E, E = eqX x y := ⟨_, rfl⟩
      rw [← he] at hc
      cases E
      · have HN := Lib.hid (eqX_no.1 he.symm)
        clear he
        go_wp2_with (go_at_call 56; refine hc.mono ?_; rintro e w3 ⟨rfl, hb⟩; have HB3 := Lib.hid (below_call hb HB.out HB.out.size); clear hb)
        go_ret
        refine ⟨ret_bool (Eq.symm (eqX_no.2 fun h => HN.out ?_)), HB3.out⟩
        subst h
        exact Option.some.inj (HX.out.symm.trans HY.out)
      · have HN := Lib.hid (eqX_iff.1 he.symm)
        clear he
        go_wp2_with (go_at_call 56; refine hc.mono ?_; rintro e w3 ⟨rfl, hb⟩; have HB3 := Lib.hid (below_call hb HB.out HB.out.size); clear hb)
        go_roundw
        case rel =>
          refine ⟨j + 1, by omega, by go_num, ?_, HB3.out⟩
          rw [List.take_add_one, List.take_add_one, HX.out, HY.out, HT.out, HN.out]
        case measure => simp [intOf]; omega
    · have h1 : l.take j = l := List.take_of_length_le (by have := HL.out; omega)
      have h2 : m.take j = m := List.take_of_length_le (by have := HM.out; omega)
      have HN : Hid (l = m) := by
        show l = m
        rw [← h1, ← h2]; exact HT.out
      clear h1 h2
      go_wp2
      go_ret
      exact ⟨ret_bool (Eq.symm (eqX_iff.2 HN.out)), HB.out⟩
theorem seqRows_any {n : Nat} (A B : Option Addr) (c d : Nat) (l m : List (List (Ar n))) (w : World) (rl : RdK (KR n) Any w A c l) (rm : RdK (KR n) Any w B d m) :
    Calls Tryz.prog 55 #[.slice A l.length c, .slice B m.length d, .func (.func 56) #[] #[]] w fun e w' => e = .returned (.bool (eqX l m)) ∧ Below w.heap.size w w' := by
  by_cases h : l.length = m.length
  · have := seqRows_eq A B l.length c d l m w rfl h rl rm
    rw [h] at this ⊢
    exact this
  · refine (seqRows_len A B l.length m.length c d w (by simp; omega)).mono fun e w' ⟨h1, h2⟩ => ⟨?_, by subst h2; exact Below.refl _ _⟩
    rw [h1, eqX_no.2 (fun e => h (by rw [e]))]

set_option maxHeartbeats 400000 in
theorem seqSets_len (A B : Option Addr) (n m c d : Nat) (w : World) (h : ((n : Int) != m) = true) :
    Calls Tryz.prog 57 #[.slice A n c, .slice B m d, .func (.func 58) #[] #[]] w fun e w' => e = .returned (.bool false) ∧ w = w' := by
  go_enter Tryz.func57, Tryz.ntmps57
  go_wp2
  go_ret
  exact ⟨rfl, rfl⟩

set_option maxHeartbeats 1000000 in
set_option maxRecDepth 100000 in
theorem seqSets_eq {n : Nat} (A B : Option Addr) (k c d : Nat) (l m : List (Sx n)) (w : World) (hl : k = l.length) (hm : k = m.length) (rl : RdK (KS n) Any w A c l) (rm : RdK (KS n) Any w B d m) :
    Calls Tryz.prog 57 #[.slice A k c, .slice B k d, .func (.func 58) #[] #[]] w fun e w' => e = .returned (.bool (eqX l m)) ∧ Below w.heap.size w w' := by
  have hk : k ≤ 9223372036854775807 := by have := rl.hdr.2; omega
  have RL := Lib.hid rl
  have RM := Lib.hid rm
  have HL := Lib.hid hl
  have HM := Lib.hid hm
  clear rl rm hl hm
  go_enter Tryz.func57, Tryz.ntmps57
  go_wp2_with fail
  go_loopw [17] (fun i wr => ∃ j : Nat, j ≤ k ∧ i = .int .i64 j ∧ l.take j = m.take j ∧ Below w.heap.size w wr) (fun i _ => k - (intOf i).toNat)
  case atStart => exact ⟨0, by omega, rfl, rfl, Below.refl _ _⟩
  case round =>
    obtain ⟨j, hj, rfl, ht, hB⟩ := hrel
    have HT := Lib.hid ht
    have HB := Lib.hid hB
    clear ht hB
    by_cases hlt : j < k
    · obtain ⟨ad, a1, c1, rfl, ⟨p0, p1, p2, p3, p4, p5, p6, p7⟩, r1⟩ := (RL.out.below (KS_ok n) HB.out).set (j := j) (by have := HL.out; omega)
      obtain ⟨bd, a2, c2, rfl, ⟨q0, q1, q2, q3, q4, q5, q6, q7⟩, r2⟩ := (RM.out.below (KS_ok n) HB.out).set (j := j) (by have := HM.out; omega)
      have lj : j < l.length := by have := HL.out; omega
      have mj : j < m.length := by have := HM.out; omega
      have hx : l[j]? = some l[j] := List.getElem?_eq_getElem lj
      have hy : m[j]? = some m[j] := List.getElem?_eq_getElem mj
      generalize l[j] = x at p0 p1 p2 p3 p4 p5 p6 p7 r1 hx
      generalize m[j] = y at q0 q1 q2 q3 q4 q5 q6 q7 r2 hy
      have HX := Lib.hid hx
      have HY := Lib.hid hy
      have hc := Lib.hid fun w2 hb => ssameSet_any x y a1 a2 c1 c2 w2 (r1.below (KE_ok _) (w := wr) hb) (r2.below (KE_ok _) (w := wr) hb)
      clear r1 r2
      clear hx hy
      have hq := cell_lt q0
      have hq2 := hq
      rw [add_block] at hq2
      obtain ⟨E, he⟩ : ∃ E, E = eqX x y := ⟨_, rfl⟩
      rw [← he] at hc
      cases E
      · have HN := Lib.hid (eqX_no.1 he.symm)
        clear he
        go_wp2_with (go_at_call 58; refine (hc.out _ (below2 _ _ _)).mono ?_; rintro e w3 ⟨rfl, hb⟩; have HB3 := Lib.hid (below_call (below_of2 hb) HB.out HB.out.size); clear hb)
        go_ret
        refine ⟨ret_bool (Eq.symm (eqX_no.2 fun h => HN.out ?_)), HB3.out⟩
        subst h
        exact Option.some.inj (HX.out.symm.trans HY.out)
      · have HN := Lib.hid (eqX_iff.1 he.symm)
        clear he
        go_wp2_with (go_at_call 58; refine (hc.out _ (below2 _ _ _)).mono ?_; rintro e w3 ⟨rfl, hb⟩; have HB3 := Lib.hid (below_call (below_of2 hb) HB.out HB.out.size); clear hb)
        go_roundw
        case rel =>
          refine ⟨j + 1, by omega, by go_num, ?_, HB3.out⟩
          rw [List.take_add_one, List.take_add_one, HX.out, HY.out, HT.out, HN.out]
        case measure => simp [intOf]; omega
    · have h1 : l.take j = l := List.take_of_length_le (by have := HL.out; omega)
      have h2 : m.take j = m := List.take_of_length_le (by have := HM.out; omega)
      have HN : Hid (l = m) := by
        show l = m
        rw [← h1, ← h2]; exact HT.out
      clear h1 h2
      go_wp2
      go_ret
      exact ⟨ret_bool (Eq.symm (eqX_iff.2 HN.out)), HB.out⟩
theorem seqSets_any {n : Nat} (A B : Option Addr) (c d : Nat) (l m : List (Sx n)) (w : World) (rl : RdK (KS n) Any w A c l) (rm : RdK (KS n) Any w B d m) :
    Calls Tryz.prog 57 #[.slice A l.length c, .slice B m.length d, .func (.func 58) #[] #[]] w fun e w' => e = .returned (.bool (eqX l m)) ∧ Below w.heap.size w w' := by
  by_cases h : l.length = m.length
  · have := seqSets_eq A B l.length c d l m w rfl h rl rm
    rw [h] at this ⊢
    exact this
  · refine (seqSets_len A B l.length m.length c d w (by simp; omega)).mono fun e w' ⟨h1, h2⟩ => ⟨?_, by subst h2; exact Below.refl _ _⟩
    rw [h1, eqX_no.2 (fun e => h (by rw [e]))]

set_option maxHeartbeats 400000 in
theorem seqCols_len (A B : Option Addr) (n m c d : Nat) (w : World) (h : ((n : Int) != m) = true) :
    Calls Tryz.prog 53 #[.slice A n c, .slice B m d] w fun e w' => e = .returned (.bool false) ∧ w = w' := by
  go_enter Tryz.func53, Tryz.ntmps53
  go_wp2
  go_ret
  exact ⟨rfl, rfl⟩

set_option maxHeartbeats 1000000 in
set_option maxRecDepth 100000 in
theorem seqCols_eq (A B : Option Addr) (k c d : Nat) (l m : List Cl) (w : World) (hl : k = l.length) (hm : k = m.length) (rl : RdK KC Any w A c l) (rm : RdK KC Any w B d m) :
    Calls Tryz.prog 53 #[.slice A k c, .slice B k d] w fun e w' => e = .returned (.bool (eqX l m)) ∧ Below w.heap.size w w' := by
  have hk : k ≤ 9223372036854775807 := by have := rl.hdr.2; omega
  have RL := Lib.hid rl
  have RM := Lib.hid rm
  have HL := Lib.hid hl
  have HM := Lib.hid hm
  clear rl rm hl hm
  go_enter Tryz.func53, Tryz.ntmps53
  go_wp2_with fail
  go_loopw [13] (fun i wr => ∃ j : Nat, j ≤ k ∧ i = .int .i64 j ∧ l.take j = m.take j ∧ Below w.heap.size w wr) (fun i _ => k - (intOf i).toNat)
  case atStart => exact ⟨0, by omega, rfl, rfl, Below.refl _ _⟩
  case round =>
    obtain ⟨j, hj, rfl, ht, hB⟩ := hrel
    have HT := Lib.hid ht
    have HB := Lib.hid hB
    clear ht hB
    by_cases hlt : j < k
    · obtain ⟨ad, rfl, p0, p1, p2⟩ := (RL.out.below KC_ok HB.out).col (j := j) (by have := HL.out; omega)
      obtain ⟨bd, rfl, q0, q1, q2⟩ := (RM.out.below KC_ok HB.out).col (j := j) (by have := HM.out; omega)
      have lj : j < l.length := by have := HL.out; omega
      have mj : j < m.length := by have := HM.out; omega
      have hx : l[j]? = some l[j] := List.getElem?_eq_getElem lj
      have hy : m[j]? = some m[j] := List.getElem?_eq_getElem mj
      generalize l[j] = x at p0 p1 p2 hx
      generalize m[j] = y at q0 q1 q2 hy
      have HX := Lib.hid hx
      have HY := Lib.hid hy
      have hc := run_neC x y
      clear hx hy
      have hq := cell_lt q0
      have hq2 := hq
      rw [add_block] at hq2
      obtain ⟨E, he⟩ : ∃ E, E = eqX x y := ⟨_, rfl⟩
      rw [← he] at hc
      cases E
      · have HN := Lib.hid (eqX_no.1 he.symm)
        clear he
        go_wp2_with fail
        go_quiet (fail)
        go_wp2_with fail
        go_ret
        refine ⟨ret_bool (Eq.symm (eqX_no.2 fun h => HN.out ?_)), (below_drewN HB.out _)⟩
        subst h
        exact Option.some.inj (HX.out.symm.trans HY.out)
      · have HN := Lib.hid (eqX_iff.1 he.symm)
        clear he
        go_wp2_with fail
        go_quiet (fail)
        go_wp2_with fail
        go_roundw
        case rel =>
          refine ⟨j + 1, by omega, by go_num, ?_, (below_drewN HB.out _)⟩
          rw [List.take_add_one, List.take_add_one, HX.out, HY.out, HT.out, HN.out]
        case measure => simp [intOf]; omega
    · have h1 : l.take j = l := List.take_of_length_le (by have := HL.out; omega)
      have h2 : m.take j = m := List.take_of_length_le (by have := HM.out; omega)
      have HN : Hid (l = m) := by
        show l = m
        rw [← h1, ← h2]; exact HT.out
      clear h1 h2
      go_wp2
      go_ret
      exact ⟨ret_bool (Eq.symm (eqX_iff.2 HN.out)), HB.out⟩
theorem seqCols_any (A B : Option Addr) (c d : Nat) (l m : List Cl) (w : World) (rl : RdK KC Any w A c l) (rm : RdK KC Any w B d m) :
    Calls Tryz.prog 53 #[.slice A l.length c, .slice B m.length d] w fun e w' => e = .returned (.bool (eqX l m)) ∧ Below w.heap.size w w' := by
  by_cases h : l.length = m.length
  · have := seqCols_eq A B l.length c d l m w rfl h rl rm
    rw [h] at this ⊢
    exact this
  · refine (seqCols_len A B l.length m.length c d w (by simp; omega)).mono fun e w' ⟨h1, h2⟩ => ⟨?_, by subst h2; exact Below.refl _ _⟩
    rw [h1, eqX_no.2 (fun e => h (by rw [e]))]

set_option maxHeartbeats 400000 in
theorem seqOrds_len (A B : Option Addr) (n m c d : Nat) (w : World) (h : ((n : Int) != m) = true) :
    Calls Tryz.prog 54 #[.slice A n c, .slice B m d] w fun e w' => e = .returned (.bool false) ∧ w = w' := by
  go_enter Tryz.func54, Tryz.ntmps54
  go_wp2
  go_ret
  exact ⟨rfl, rfl⟩

set_option maxHeartbeats 1000000 in
set_option maxRecDepth 100000 in
theorem seqOrds_eq (A B : Option Addr) (k c d : Nat) (l m : List Od) (w : World) (hl : k = l.length) (hm : k = m.length) (rl : RdK KO Any w A c l) (rm : RdK KO Any w B d m) :
    Calls Tryz.prog 54 #[.slice A k c, .slice B k d] w fun e w' => e = .returned (.bool (eqX l m)) ∧ Below w.heap.size w w' := by
  have hk : k ≤ 9223372036854775807 := by have := rl.hdr.2; omega
  have RL := Lib.hid rl
  have RM := Lib.hid rm
  have HL := Lib.hid hl
  have HM := Lib.hid hm
  clear rl rm hl hm
  go_enter Tryz.func54, Tryz.ntmps54
  go_wp2_with fail
  go_loopw [13] (fun i wr => ∃ j : Nat, j ≤ k ∧ i = .int .i64 j ∧ l.take j = m.take j ∧ Below w.heap.size w wr) (fun i _ => k - (intOf i).toNat)
  case atStart => exact ⟨0, by omega, rfl, rfl, Below.refl _ _⟩
  case round =>
    obtain ⟨j, hj, rfl, ht, hB⟩ := hrel
    have HT := Lib.hid ht
    have HB := Lib.hid hB
    clear ht hB
    by_cases hlt : j < k
    · obtain ⟨ad, rfl, p0, p1⟩ := (RL.out.below KO_ok HB.out).ord (j := j) (by have := HL.out; omega)
      obtain ⟨bd, rfl, q0, q1⟩ := (RM.out.below KO_ok HB.out).ord (j := j) (by have := HM.out; omega)
      have lj : j < l.length := by have := HL.out; omega
      have mj : j < m.length := by have := HM.out; omega
      have hx : l[j]? = some l[j] := List.getElem?_eq_getElem lj
      have hy : m[j]? = some m[j] := List.getElem?_eq_getElem mj
      generalize l[j] = x at p0 p1 hx
      generalize m[j] = y at q0 q1 hy
      have HX := Lib.hid hx
      have HY := Lib.hid hy
      have hc := run_neO x y
      clear hx hy
      have hq := cell_lt q0
      have hq2 := hq
      rw [add_block] at hq2
      obtain ⟨E, he⟩ : ∃ E, E = eqX x y := ⟨_, rfl⟩
      rw [← he] at hc
      cases E
      · have HN := Lib.hid (eqX_no.1 he.symm)
        clear he
        go_wp2_with fail
        go_quiet (fail)
        go_wp2_with fail
        go_ret
        refine ⟨ret_bool (Eq.symm (eqX_no.2 fun h => HN.out ?_)), (below_drewN HB.out _)⟩
        subst h
        exact Option.some.inj (HX.out.symm.trans HY.out)
      · have HN := Lib.hid (eqX_iff.1 he.symm)
        clear he
        go_wp2_with fail
        go_quiet (fail)
        go_wp2_with fail
        go_roundw
        case rel =>
          refine ⟨j + 1, by omega, by go_num, ?_, (below_drewN HB.out _)⟩
          rw [List.take_add_one, List.take_add_one, HX.out, HY.out, HT.out, HN.out]
        case measure => simp [intOf]; omega
    · have h1 : l.take j = l := List.take_of_length_le (by have := HL.out; omega)
      have h2 : m.take j = m := List.take_of_length_le (by have := HM.out; omega)
      have HN : Hid (l = m) := by
        show l = m
        rw [← h1, ← h2]; exact HT.out
      clear h1 h2
      go_wp2
      go_ret
      exact ⟨ret_bool (Eq.symm (eqX_iff.2 HN.out)), HB.out⟩
theorem seqOrds_any (A B : Option Addr) (c d : Nat) (l m : List Od) (w : World) (rl : RdK KO Any w A c l) (rm : RdK KO Any w B d m) :
    Calls Tryz.prog 54 #[.slice A l.length c, .slice B m.length d] w fun e w' => e = .returned (.bool (eqX l m)) ∧ Below w.heap.size w w' := by
  by_cases h : l.length = m.length
  · have := seqOrds_eq A B l.length c d l m w rfl h rl rm
    rw [h] at this ⊢
    exact this
  · refine (seqOrds_len A B l.length m.length c d w (by simp; omega)).mono fun e w' ⟨h1, h2⟩ => ⟨?_, by subst h2; exact Below.refl _ _⟩
    rw [h1, eqX_no.2 (fun e => h (by rw [e]))]
end Go.Proofs.YtnbgnofbeklmkaaGreatDoor
