/- What slices.IndexFunc, place, open and oldest answer over any list of transactions: the walks. Conditions: lists that are read in memory. -/
import Derived.Test.YtlcmpngjmmbkcaaVb
namespace Go.Proofs.Ytlcmpngjmmbkcaa
open Go.RowKit Go.Sort
set_option linter.unusedSimpArgs false
set_option linter.unusedVariables false

def hasI (i : Int) (t : Tx) : Bool := t.i == i
theorem idx_up {p : Tx → Bool} {l : List Tx} {j : Nat} (h : j ≤ l.findIdx p) (hj : j < l.length) (hp : p l[j] = false) : j + 1 ≤ l.findIdx p := by
  rcases Nat.lt_or_ge j (l.findIdx p) with h1 | h1
  · omega
  · have e : l.findIdx p = j := by omega
    have := List.findIdx_getElem (p := p) (xs := l) (w := by omega)
    simp only [e] at this
    rw [hp] at this; cases this
theorem idx_hit {i : Int} {l : List Tx} {j : Nat} (h : j ≤ l.findIdx (hasI i)) (hj : j < l.length) (hp : hasI i l[j] = true) : idx i l = j := by
  have e : l.findIdx (hasI i) = j := by
    rcases Nat.lt_or_ge j (l.findIdx (hasI i)) with h1 | h1
    · have := List.not_of_lt_findIdx h1
      rw [hp] at this; cases this
    · omega
  have e2 : plc i l = j := e
  unfold idx
  rw [e2, if_pos hj]
theorem idx_no {i : Int} {l : List Tx} (h : l.length ≤ l.findIdx (hasI i)) : idx i l = -1 := by
  have h2 : l.length ≤ plc i l := h
  unfold idx
  rw [if_neg (by omega)]
set_option maxHeartbeats 1000000 in
theorem test_any (v : Tx) (i : Int) (q : Addr) (w : World) (hq : w.cell? q = some (.int .i64 i)) :
    Calls Try.prog 28 #[.agg #[.int .i64 v.i, .int .i64 v.s, .int .i64 v.e, .bool v.a, .bool v.o], .pointer (some q)] w fun e w' => e = .returned (.bool (hasI i v)) ∧ Below w.heap.size w w' := by
  have hk := cell_keep hq (below1 w (.cells #[.int .i64 v.i, .int .i64 v.s, .int .i64 v.e, .bool v.a, .bool v.o] 35))
  have hl := cell_lt hq
  go_enter Try.func28, Try.ntmps28
  go_wp2
  all_goals go_ret
  all_goals exact ⟨ret_bool (by unfold hasI; grind), below1 _ _⟩
set_option maxHeartbeats 2000000 in
theorem index_any (i : Int) (q : Addr) (A : Option Addr) (n c : Nat) (l : List Tx) (w : World) (hr : Rd w A n c l) (hc : w.cell? q = some (.int .i64 i)) :
    Calls Try.prog 27 #[.slice A n c, .func (.func 28) #[] #[.pointer (some q)]] w fun e w' => e = .returned (.int .i64 (idx i l)) ∧ Below w.heap.size w w' := by
  have hl := hr.len
  have hcap : n ≤ 9223372036854775807 := by have := hr.le; have := hr.cap; omega
  subst hl
  have HR := Lib.hid hr
  have HC := Lib.hid hc
  have HT := Lib.hid fun (v : Tx) W (hb : W.cell? q = some (.int .i64 i)) => test_any v i q W hb
  clear hr hc
  go_enter Try.func27, Try.ntmps27
  go_wp2
  go_loopw [5, 8] (fun _ x wr => ∃ j : Nat, j ≤ l.length ∧ x = .int .i64 j ∧ j ≤ l.findIdx (hasI i) ∧ Below w.heap.size w wr) (fun _ x _ => l.length - (intOf x).toNat)
  case atStart => exact ⟨0, by omega, rfl, by omega, Below.refl _ _⟩
  case round =>
    obtain ⟨j, hj, rfl, hno, hB⟩ := hrel
    have HB := Lib.hid hB
    have HN := Lib.hid hno
    clear hB hno
    by_cases hlt : j < l.length
    · obtain ⟨ad, rfl, c0, c1, c2, c3, c4⟩ := (HR.out.below HB.out).at_ hlt
      have hb0 := cell_lt c0
      rw [add_block] at hb0
      have HCW := Lib.hid (cell_keep HC.out HB.out)
      generalize hv : l[j] = v at *
      have HV := Lib.hid hv
      clear hv
      cases hp : hasI i v
      · have HP := Lib.hid hp
        have ht := HT.out v
        rw [hp] at ht
        have HT2 := Lib.hid ht
        clear ht hp
        go_wp2_with (go_at_call 28; (with_reducible refine (HT2.out _ HCW.out).mono ?_); rintro e w2 ⟨rfl, hb⟩)
        go_roundw
        case rel => exact ⟨j + 1, hlt, by go_num, idx_up HN.out hlt (by rw [HV.out]; exact HP.out), thn HB.out hb⟩
        case measure => simp [intOf]; omega
      · have HP := Lib.hid hp
        have ht := HT.out v
        rw [hp] at ht
        have HT2 := Lib.hid ht
        clear ht hp
        go_wp2_with (go_at_call 28; (with_reducible refine (HT2.out _ HCW.out).mono ?_); rintro e w2 ⟨rfl, hb⟩)
        go_ret
        exact ⟨ret_int (idx_hit HN.out hlt (by rw [HV.out]; exact HP.out)).symm, thn HB.out hb⟩
    · go_wp2
      go_ret
      exact ⟨ret_int (idx_no (by have := HN.out; omega)).symm, HB.out⟩
set_option maxHeartbeats 1000000 in
theorem place_any (i : Int) (A : Option Addr) (n c : Nat) (l : List Tx) (w : World) (hr : Rd w A n c l) :
    Calls Try.prog 20 #[.slice A n c, .int .i64 i] w fun e w' => e = .returned (.int .i64 (idx i l)) ∧ Below w.heap.size w w' := by
  have hb := below1 w (.cells #[.int .i64 i] 3)
  have HB := Lib.hid hb
  have HI := Lib.hid (index_any i ⟨w.heap.size, 0, none⟩ A n c l _ (hr.below hb) (cell_last w _ _ _ 0 rfl))
  clear hb hr
  go_enter Try.func20, Try.ntmps20
  go_wp2_with (go_at_call 27; (with_reducible refine HI.out.mono ?_); rintro e w1 ⟨rfl, hb1⟩; have HB1 := Lib.hid (thn HB.out hb1); clear hb1)
  go_ret
  exact ⟨rfl, HB1.out⟩
/-- What open answers: a place and an error. -/
def opnR (i : Int) (l : List Tx) : Int × Int := if h : plc i l < l.length then (if l[plc i l].e ≠ 0 then (0, 9) else (plc i l, 0)) else (0, 71)
set_option maxHeartbeats 2000000 in
theorem open_any (i : Int) (A : Option Addr) (n c : Nat) (l : List Tx) (w : World) (hr : Rd w A n c l) :
    Calls Try.prog 23 #[.slice A n c, .int .i64 i] w fun e w' => e = .returned (.tuple #[.int .i64 (opnR i l).1, .int .i64 (opnR i l).2]) ∧ Below w.heap.size w w' := by
  have hl := hr.len
  have hcap : n ≤ 9223372036854775807 := by have := hr.le; have := hr.cap; omega
  subst hl
  have HP := Lib.hid (place_any i A l.length c l w hr)
  have HR := Lib.hid hr
  unfold opnR
  unfold idx at HP
  clear hr
  by_cases h : plc i l < l.length
  · have hx := HR.out.at_ h
    rw [dif_pos h]
    rw [if_pos h] at HP
    obtain ⟨ad, rfl, c0, c1, c2, c3, c4⟩ := hx
    have HC := Lib.hid fun W (hb : Below w.heap.size w W) => cell_keep c2 hb
    have hbl := cell_lt c0
    rw [add_block] at hbl
    clear c0 c1 c2 c3 c4
    generalize l[plc i l] = t at *
    have hpl : (plc i l : Int) < (l.length : Int) := by omega
    have hneg : ¬ (plc i l : Int) < 0 := by omega
    generalize plc i l = P at *
    by_cases h0 : t.e = 0
    · rw [if_neg (by simpa using h0)]
      go_enter Try.func23, Try.ntmps23
      go_wp2_with (go_at_call 20; (with_reducible refine HP.out.mono ?_); rintro e w1 ⟨rfl, hb1⟩; have HB1 := Lib.hid hb1; have d2 := HC.out _ hb1; have hz := Nat.lt_of_lt_of_le hbl hb1.size; clear hb1)
      go_ret2
      exact ⟨rfl, HB1.out⟩
    · rw [if_pos (by simpa using h0)]
      go_enter Try.func23, Try.ntmps23
      go_wp2_with (go_at_call 20; (with_reducible refine HP.out.mono ?_); rintro e w1 ⟨rfl, hb1⟩; have HB1 := Lib.hid hb1; have d2 := HC.out _ hb1; have hz := Nat.lt_of_lt_of_le hbl hb1.size; clear hb1)
      go_ret2
      exact ⟨rfl, HB1.out⟩
  · rw [dif_neg h]
    rw [if_neg h] at HP
    go_enter Try.func23, Try.ntmps23
    go_wp2_with (go_at_call 20; (with_reducible refine HP.out.mono ?_); rintro e w1 ⟨rfl, hb1⟩; have HB1 := Lib.hid hb1; clear hb1)
    go_ret2
    exact ⟨rfl, HB1.out⟩
/-- A state as a value. -/
@[reducible] def stV (A : Option Addr) (n c : Nat) (s : St) : Value := .agg #[.slice A n c, .int .i64 s.c, .int .i64 s.n]
set_option maxHeartbeats 4000000 in
theorem oldest_any (A : Option Addr) (n c : Nat) (s : St) (w : World) (hr : Rd w A n c s.l) :
    Calls Try.prog 25 #[.agg #[.slice A n c, .int .i64 s.c, .int .i64 s.n]] w fun e w' => e = .returned (.int .i64 (minS s.c s.l)) ∧ Below w.heap.size w w' := by
  obtain ⟨l, ck, nx⟩ := s
  simp only at hr ⊢
  have hl := hr.len
  have hcap : n ≤ 9223372036854775807 := by have := hr.le; have := hr.cap; omega
  subst hl
  have HR := Lib.hid hr
  clear hr
  go_enter Try.func25, Try.ntmps25
  go_upto_region 2 with fail
  have HB0 := Lib.hid (below1 w (.cells #[.slice A l.length c, .int .i64 ck, .int .i64 nx] 28))
  have b0 := cell_last w #[.slice A l.length c, .int .i64 ck, .int .i64 nx] 28 w.heap.size 0 rfl
  generalize w.alloc (.cells #[.slice A l.length c, .int .i64 ck, .int .i64 nx] 28) = W0 at *
  go_wp2
  go_loopw [3, 5, 11] (fun m _ x wr => ∃ j : Nat, j ≤ l.length ∧ x = .int .i64 j ∧ m = .int .i64 (minS ck (l.take j)) ∧ Below w.heap.size w wr) (fun _ _ x _ => l.length - (intOf x).toNat)
  case atStart => exact ⟨0, by omega, rfl, rfl, HB0.out⟩
  case round =>
    obtain ⟨j, hj, rfl, rfl, hB⟩ := hrel
    have HB := Lib.hid hB
    clear hB
    by_cases hlt : j < l.length
    · obtain ⟨ad, rfl, c0, c1, c2, c3, c4⟩ := (HR.out.below HB.out).at_ hlt
      have hb0 := cell_lt c0
      rw [add_block] at hb0
      have hst : l.take (j + 1) = l.take j ++ [l[j]] := List.take_succ_eq_append_getElem hlt
      have hmi := minS_app ck (l.take j) l[j]
      rw [← hst] at hmi
      have HM := Lib.hid hmi
      clear hmi hst
      have HB1 := Lib.hid (thn HB.out (below1 wr (.cells #[.int .i64 l[j].i, .int .i64 l[j].s, .int .i64 l[j].e, .bool l[j].a, .bool l[j].o] 35)))
      generalize l[j] = v at *
      generalize minS ck (l.take j) = M at *
      by_cases h0 : v.e = 0
      · go_wp2
        go_roundw
        case rel => exact ⟨j + 1, hlt, by go_num, by rw [HM.out, if_pos h0]; congr 1; split <;> omega, thn HB.out (below1 _ _)⟩
        case measure => simp [intOf]; omega
      · go_wp2
        go_roundw
        case rel => exact ⟨j + 1, hlt, by go_num, by rw [HM.out, if_neg h0], thn HB.out (below1 _ _)⟩
        case measure => simp [intOf]; omega
    · obtain rfl : j = l.length := by omega
      go_wp2
      go_ret
      exact ⟨ret_int (by rw [List.take_length]), HB.out⟩
end Go.Proofs.Ytlcmpngjmmbkcaa
