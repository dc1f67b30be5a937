/- Which parts of an expression may be: the walks of isPart and of the reference's part. Conditions: none. -/
import Derived.Test.YtipcacplphidhaaGreatTj
import Derived.Test.YtipcacplphidhaaGreatTd
namespace Go.Proofs.YtipcacplphidhaaGreat.Sy
open Go.RowKit
set_option linter.unusedSimpArgs false
set_option linter.unusedVariables false

def vl0 : Vl := ⟨0, 0, ⟨#[]⟩, by decide⟩
def emp (s : ByteArray) : Bool := s.toList.isEmpty
/-- Whether a part may be, but for its Args. -/
def partB {α : Type} (x : ExN α) : Bool :=
  decide (argsI x.op = x.l.length) &&
  (if x.op = 0 then emp x.t && emp x.m && litB x.v.k x.v.n x.v.s
   else if x.op = 1 then eqV x.v vl0 && (emp x.t || nameB x.t) && nameB x.m
   else eqV x.v vl0 && emp x.t && emp x.m)
theorem fA_args : ∀ k, k < 23 → fA k = argsI k := by decide
theorem args_no {op : Int} (h : op < 0 ∨ 23 ≤ op) : argsI op = -1 := by unfold argsI; rw [if_pos (by omega)]
theorem formOfOp_yes (k : Nat) (hk : k < 23) (w : World) : Calls Tryz.prog 92 #[.int .i64 k] w fun e w' => e = .returned (.tuple #[.agg #[.int .i64 (fA k), .string (fH k), .string (fB k), .string (fE k)], .bool true]) ∧ Below w.heap.size w w' :=
  (formOfOp_any k w).mono fun e w' ⟨h, hb⟩ => ⟨by rw [h, if_pos ⟨by omega, by omega⟩, Int.toNat_natCast], hb⟩
theorem formOfOp_no (op : Int) (h : op < 0 ∨ 23 ≤ op) (w : World) : Calls Tryz.prog 92 #[.int .i64 op] w fun e w' => e = .returned (.tuple #[.agg #[.int .i64 0, .string ⟨#[]⟩, .string ⟨#[]⟩, .string ⟨#[]⟩], .bool false]) ∧ Below w.heap.size w w' :=
  (formOfOp_any op w).mono fun e w' ⟨h', hb⟩ => ⟨by rw [h', if_neg (by omega)], hb⟩

set_option maxHeartbeats 2000000 in
set_option maxRecDepth 100000 in
theorem sisPart_no {α : Type} (x : ExN α) (a : Option Addr) (c : Nat) (w : World) (h : x.op < 0 ∨ 23 ≤ x.op) :
    Calls Tryz.prog 85 #[x.val a c] w fun e w' => e = .returned (.bool (partB x)) ∧ Below w.heap.size w w' := by
  have hp : partB x = false := by unfold partB; rw [args_no h]; simp
  rw [hp]
  obtain ⟨op, ⟨k, n, s, hv⟩, t, m, l⟩ := x
  unfold ExN.val
  dsimp only at h ⊢
  have hF := fun w => formOfOp_no op h w
  clear hp h
  go_enter Tryz.func85, Tryz.ntmps85
  go_wp2_with (go_at_call 92; refine (hF _).mono ?_; rintro e w1 ⟨rfl, hb⟩; have hb1 := below_of1 hb; have hz1 := hb1.size; clear hb)
  go_ret
  exact ⟨rfl, by (repeat (first | (with_reducible assumption) | (with_reducible exact Below.refl _ _) | (with_reducible refine Below.setCell ?_ (by first | omega | (simp; done) | (simp; omega)) _) | (with_reducible refine Below.alloc ?_ (by first | omega | (simp; done) | (simp; omega)) _) | (with_reducible refine below_drewN ?_ _) | (with_reducible refine Below.drew ?_)))⟩

/-- The seven cells of a box, kept by a call. -/
theorem box7 {w w1 : World} {o : Obj} {a0 a1 a2 a3 a4 a5 a6 : Value} {t : TypeId} (hb : Below (w.alloc (.cells #[a0, a1, a2, a3, a4, a5, a6] t)).heap.size (w.alloc (.cells #[a0, a1, a2, a3, a4, a5, a6] t)) w1) :
    w1.heap[w.heap.size]? = some (.cells #[a0, a1, a2, a3, a4, a5, a6] t (0, 0)) ∧ Below w.heap.size w w1 ∧ w.heap.size < w1.heap.size := ⟨heap1 hb, below_of1 hb, by have := hb.size; simp at this; omega⟩
theorem cells7 {w1 : World} {b : Nat} {a0 a1 a2 a3 a4 a5 a6 : Value} {t : TypeId} (h : w1.heap[b]? = some (.cells #[a0, a1, a2, a3, a4, a5, a6] t (0, 0))) :
    w1.cell? ⟨b, 0, none⟩ = some a0 ∧ w1.cell? ⟨b, 1, none⟩ = some a1 ∧ w1.cell? ⟨b, 2, none⟩ = some a2 ∧ w1.cell? ⟨b, 3, none⟩ = some a3 ∧ w1.cell? ⟨b, 4, none⟩ = some a4 ∧ w1.cell? ⟨b, 5, none⟩ = some a5 ∧ w1.cell? ⟨b, 6, none⟩ = some a6 := by simp [World.cell?, h]

set_option maxHeartbeats 2000000 in
set_option maxRecDepth 100000 in
theorem sisPart_yes {α : Type} (x : ExN α) (a : Option Addr) (c : Nat) (w : World) (h0 : 0 ≤ x.op) (h1 : x.op < 23) :
    Calls Tryz.prog 85 #[x.val a c] w fun e w' => e = .returned (.bool (partB x)) ∧ Below w.heap.size w w' := by
  obtain ⟨op, ⟨k, n, s, hv⟩, t, m, l⟩ := x
  dsimp only at h0 h1
  obtain ⟨o, rfl⟩ := Int.eq_ofNat_of_zero_le h0
  have hF := fun w => formOfOp_yes o (by omega) w
  have HA := Lib.hid (fA_args o (by omega))
  unfold partB ExN.val
  dsimp only
  rw [← HA.out]
  by_cases hl : fA o = l.length
  · rw [hl] at hF ⊢
    have hle : l.length ≤ 2 := by
      have : ∀ k, k < 23 → fA k ≤ 2 := by decide
      have := this o (by omega)
      omega
    have hneq : ((l.length : Int) != (l.length : Int)) = false := by simp
    have hlit := fun w => sisLiteral_any k n s w
    generalize hE : eqV ⟨k, n, s, hv⟩ vl0 = E
    have heq : ∀ w, (binOp .eql 60 (.agg #[.int .i64 k, .int .i64 n, .string s]) (.agg #[.int .i64 0, .int .i64 0, .string ⟨#[]⟩])).run Tryz.prog w = .ok (.bool E) w := fun w => by rw [← hE]; exact run_eqV ⟨k, n, s, hv⟩ vl0 w
    clear hE
    have hn := fun (s : ByteArray) (w : World) => sName_any s w
    go_enter Tryz.func85, Tryz.ntmps85
    go_upto_region 4 with (go_at_call 92; refine (hF _).mono ?_; rintro e w1 ⟨rfl, hb⟩; obtain ⟨hh, hb1, hz1⟩ := box7 (o := .cells #[] 0) hb; obtain ⟨c0, c1, c2, c3, c4, c5, c6⟩ := cells7 hh; clear hh hb)
    have hA := below1 w1 (.cells #[.int .i64 l.length, .string (fH o), .string (fB o), .string (fE o)] 152)
    have hz2 : w.heap.size < (w1.alloc (.cells #[.int .i64 l.length, .string (fH o), .string (fB o), .string (fE o)] 152)).heap.size := by simp; omega
    have hb2 := below_call hA hb1 hb1.size
    have c0 := cell_keep c0 hA
    have c1 := cell_keep c1 hA
    have c2 := cell_keep c2 hA
    have c3 := cell_keep c3 hA
    have c4 := cell_keep c4 hA
    have c5 := cell_keep c5 hA
    have c6 := cell_keep c6 hA
    generalize (w1.alloc (.cells #[.int .i64 l.length, .string (fH o), .string (fB o), .string (fE o)] 152)) = w2 at c0 c1 c2 c3 c4 c5 c6 hb2 hz2 ⊢
    have HB := Lib.hid hb2
    clear hF hb2 hA hb1
    rcases (show o = 0 ∨ o = 1 ∨ 2 ≤ o by omega) with rfl | rfl | h2
    · clear hn heq
      go_wp2_with (go_at_call 93; refine (hlit _).mono ?_; rintro e w3 ⟨rfl, hb⟩; have HB := Lib.hid (below_call hb HB.out HB.out.size); clear hb)
      all_goals go_ret
      all_goals refine ⟨ret_bool (by simp [emp, *]), ?_⟩
      all_goals exact HB.out
    · have hn := Lib.hid hn
      clear hlit
      go_wp2_with (go_at_call 81; refine (hn.out _ _).mono ?_; rintro e w3 ⟨rfl, hb⟩; obtain ⟨hcc, hff⟩ := bcell hb; have HB := Lib.hid (below_call hb HB.out HB.out.size); clear hb)
      all_goals go_ret
      all_goals refine ⟨ret_bool (by simp [emp, *]), ?_⟩
      all_goals exact HB.out
    · have hn0 : ((o : Int) == 0) = false := by simp; omega
      have hn1 : ((o : Int) == 1) = false := by simp; omega
      have hi0 : ¬ o = 0 := by omega
      have hi1 : ¬ o = 1 := by omega
      clear hlit hn
      go_wp2
      all_goals go_ret
      all_goals refine ⟨ret_bool (by simp [emp, hi0, hi1, *]), ?_⟩
      all_goals exact HB.out
  · have hneq : ((l.length : Int) != fA o) = true := by simp; exact fun h => hl h.symm
    have hde : decide (fA o = (l.length : Int)) = false := by simp [hl]
    rw [hde, Bool.false_and]
    go_enter Tryz.func85, Tryz.ntmps85
    go_wp2_with (go_at_call 92; refine (hF _).mono ?_; rintro e w1 ⟨rfl, hb⟩; obtain ⟨hh, hb1, hz1⟩ := box7 (o := .cells #[] 0) hb; obtain ⟨c0, c1, c2, c3, c4, c5, c6⟩ := cells7 hh; clear hh hb)
    go_ret
    exact ⟨rfl, by (repeat (first | (with_reducible assumption) | (with_reducible exact Below.refl _ _) | (with_reducible refine Below.setCell ?_ (by first | omega | (simp; done) | (simp; omega)) _) | (with_reducible refine Below.alloc ?_ (by first | omega | (simp; done) | (simp; omega)) _) | (with_reducible refine below_drewN ?_ _) | (with_reducible refine Below.drew ?_)))⟩
theorem sisPart_any {α : Type} (x : ExN α) (a : Option Addr) (c : Nat) (w : World) : Calls Tryz.prog 85 #[x.val a c] w fun e w' => e = .returned (.bool (partB x)) ∧ Below w.heap.size w w' := by
  rcases (show (x.op < 0 ∨ 23 ≤ x.op) ∨ (0 ≤ x.op ∧ x.op < 23) by omega) with h | ⟨h, h'⟩
  · exact sisPart_no x a c w h
  · exact sisPart_yes x a c w h h'

theorem checkN_0 {k n : Int} {s : ByteArray} (h : mayB k n s = true) : checkN k n s = 0 := by simp [checkN, h]
theorem checkN_9 {k n : Int} {s : ByteArray} (h : mayB k n s = false) : checkN k n s = 9 := by simp [checkN, h]

set_option maxHeartbeats 4000000 in
set_option maxRecDepth 100000 in
theorem rpart_any {α : Type} (x : ExN α) (a : Option Addr) (c : Nat) (w : World) :
    Calls Tryz.prog 80 #[x.val a c] w fun e w' => e = .returned (.bool (partB x)) ∧ Below w.heap.size w w' := by
  obtain ⟨op, ⟨k, n, s, hv⟩, t, m, l⟩ := x
  have hA := fun w => rargs_any op w
  unfold partB ExN.val
  dsimp only
  by_cases hl : argsI op = l.length
  · rw [hl] at hA ⊢
    have hneq : ((l.length : Int) != (l.length : Int)) = false := by simp
    have hC := fun w => r1Check_any k n s w
    generalize hE : eqV ⟨k, n, s, hv⟩ vl0 = E
    have heq : ∀ w, (binOp .eql 60 (.agg #[.int .i64 k, .int .i64 n, .string s]) (.agg #[.int .i64 0, .int .i64 0, .string ⟨#[]⟩])).run Tryz.prog w = .ok (.bool E) w := fun w => by rw [← hE]; exact run_eqV ⟨k, n, s, hv⟩ vl0 w
    clear hE hl
    have hn := Lib.hid fun (s : ByteArray) (w : World) => rName_any s w
    rcases (show op = 0 ∨ op = 1 ∨ (op ≠ 0 ∧ op ≠ 1) by omega) with rfl | rfl | ⟨h0, h1⟩
    · cases hM : mayB k n s
      · rw [checkN_9 hM] at hC
        have HR : Hid ((decide ((l.length : Int) = l.length) && (emp t && emp m && litB k n s)) = false) := Lib.hid (by simp [litB, hM])
        have HC := Lib.hid hC
        clear hM hn hC
        go_enter Tryz.func80, Tryz.ntmps80
        go_wp2_with fail
        go_quiet ((go_at_call 87; exact Calls.quiet_of_same ((hA _).mono fun e w' h => ⟨h.1, h.2.symm⟩)))
        go_wp2_with (go_at_call 88; refine (HC.out _).mono ?_; rintro e w3 ⟨rfl, hb⟩; obtain ⟨hcc, hff⟩ := bcell hb; have HB := Lib.hid hb; clear hb)
        go_ret
        exact ⟨ret_bool (by simpa using HR.out.symm), (below_drewN (below1 _ _) _).trans (HB.out.mono (by simp))⟩
      · rw [checkN_0 hM] at hC
        have HM := Lib.hid hM
        have HC := Lib.hid hC
        clear hM hn hC
        go_enter Tryz.func80, Tryz.ntmps80
        go_wp2_with fail
        go_quiet ((go_at_call 87; exact Calls.quiet_of_same ((hA _).mono fun e w' h => ⟨h.1, h.2.symm⟩)))
        go_wp2_with (go_at_call 88; refine (HC.out _).mono ?_; rintro e w3 ⟨rfl, hb⟩; obtain ⟨hcc, hff⟩ := bcell hb; have HB := Lib.hid hb; clear hb)
        all_goals go_ret
        all_goals refine ⟨ret_bool (by have := HM.out; (try simp only [beq_iff_eq, beq_eq_false_iff_ne, ne_eq, decide_eq_true_eq, decide_eq_false_iff_not] at *); simp [emp, litB, *] <;> grind), (below_drewN (below1 _ _) _).trans (HB.out.mono (by simp))⟩
    · clear hC
      go_enter Tryz.func80, Tryz.ntmps80
      go_wp2_with fail
      go_quiet ((go_at_call 87; exact Calls.quiet_of_same ((hA _).mono fun e w' h => ⟨h.1, h.2.symm⟩)))
      have HB := Lib.hid (below_drewN (below1 w (.cells #[.int .i64 1, .int .i64 k, .int .i64 n, .string s, .string t, .string m, .slice a l.length c] 62)) nq)
      go_wp2_with (go_at_call 58; refine (hn.out _ _).mono ?_; rintro e w3 ⟨rfl, hb⟩; obtain ⟨hcc, hff⟩ := bcell hb; have hz := hb.size; have HB := Lib.hid (below_call hb HB.out HB.out.size); clear hb)
      all_goals go_ret
      all_goals refine ⟨ret_bool (by simp [emp, *]), ?_⟩
      all_goals exact HB.out
    · have hn0 : (op == 0) = false := by simp [h0]
      have hn1 : (op == 1) = false := by simp [h1]
      clear hC hn
      go_enter Tryz.func80, Tryz.ntmps80
      go_wp2_with fail
      go_quiet ((go_at_call 87; exact Calls.quiet_of_same ((hA _).mono fun e w' h => ⟨h.1, h.2.symm⟩)))
      go_wp2
      all_goals go_ret
      all_goals refine ⟨ret_bool (by simp [emp, *]), ?_⟩
      all_goals exact below_drewN (below1 _ _) _
  · have hneq : (argsI op != (l.length : Int)) = true := by simp [hl]
    have hde : decide (argsI op = (l.length : Int)) = false := by simp [hl]
    rw [hde, Bool.false_and]
    clear hl
    go_enter Tryz.func80, Tryz.ntmps80
    go_wp2_with fail
    go_quiet ((go_at_call 87; exact Calls.quiet_of_same ((hA _).mono fun e w' h => ⟨h.1, h.2.symm⟩)))
    go_wp2
    go_ret
    exact ⟨rfl, below_drewN (below1 _ _) _⟩
end Go.Proofs.YtipcacplphidhaaGreat.Sy
