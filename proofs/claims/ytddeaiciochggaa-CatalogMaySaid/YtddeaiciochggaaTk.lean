/- Which parts of an expression may be: the walks of isPart and of the reference's part. Conditions: none. -/
import Derived.Test.YtddeaiciochggaaTj
import Derived.Test.YtddeaiciochggaaTd
namespace Go.Proofs.Ytddeaiciochggaa.Sy
open Go.RowKit
set_option linter.unusedSimpArgs false
set_option linter.unusedVariables false

def vl0 : Vl := ⟨0, 0, ⟨#[]⟩, by decide⟩
def emp (s : ByteArray) : Bool := s.toList.isEmpty
/-- Whether a part may be, but for its Args. -/
def partB {α : Type} (x : ExN α) : Bool :=
  decide (argsI x.op = x.l.length) &&
  (if x.op = 0 then emp x.t && emp x.m && litB x.v.k x.v.n x.v.s
   else if x.op = 1 then eqV x.v vl0 && (emp x.t || nameB x.t) && nameB x.m
   else eqV x.v vl0 && emp x.t && emp x.m)
theorem fA_args : ∀ k, k < 23 → fA k = argsI k := by decide
theorem args_no {op : Int} (h : op < 0 ∨ 23 ≤ op) : argsI op = -1 := by unfold argsI; rw [if_pos (by omega)]
theorem formOfOp_yes (k : Nat) (hk : k < 23) (w : World) : Calls Try.prog 113 #[.int .i64 k] w fun e w' => e = .returned (.tuple #[.agg #[.int .i64 (fA k), .string (fH k), .string (fB k), .string (fE k)], .bool true]) ∧ Below w.heap.size w w' :=
  (formOfOp_any k w).mono fun e w' ⟨h, hb⟩ => ⟨by rw [h, if_pos ⟨by omega, by omega⟩, Int.toNat_natCast], hb⟩
theorem formOfOp_no (op : Int) (h : op < 0 ∨ 23 ≤ op) (w : World) : Calls Try.prog 113 #[.int .i64 op] w fun e w' => e = .returned (.tuple #[.agg #[.int .i64 0, .string ⟨#[]⟩, .string ⟨#[]⟩, .string ⟨#[]⟩], .bool false]) ∧ Below w.heap.size w w' :=
  (formOfOp_any op w).mono fun e w' ⟨h', hb⟩ => ⟨by rw [h', if_neg (by omega)], hb⟩

set_option maxHeartbeats 2000000 in
set_option maxRecDepth 100000 in
theorem sisPart_no {α : Type} (x : ExN α) (a : Option Addr) (c : Nat) (w : World) (h : x.op < 0 ∨ 23 ≤ x.op) :
    Calls Try.prog 108 #[x.val a c] w fun e w' => e = .returned (.bool (partB x)) ∧ Below w.heap.size w w' := by
  have hp : partB x = false := by unfold partB; rw [args_no h]; simp
  rw [hp]
  obtain ⟨op, ⟨k, n, s, hv⟩, t, m, l⟩ := x
  unfold ExN.val
  dsimp only at h ⊢
  have hF := fun w => formOfOp_no op h w
  clear hp h
  go_enter Try.func108, Try.ntmps108
  go_wp2_with (go_at_call 113; refine (hF _).mono ?_; rintro e w1 ⟨rfl, hb⟩; have hb1 := below_of1 hb; have hz1 := hb1.size; clear hb)
  go_ret
  exact ⟨rfl, by (repeat (first | (with_reducible assumption) | (with_reducible exact Below.refl _ _) | (with_reducible refine Below.setCell ?_ (by first | omega | (simp; done) | (simp; omega)) _) | (with_reducible refine Below.alloc ?_ (by first | omega | (simp; done) | (simp; omega)) _) | (with_reducible refine below_drewN ?_ _) | (with_reducible refine Below.drew ?_)))⟩

/-- The seven cells of a box, kept by a call. -/
theorem box7 {w w1 : World} {o : Obj} {a0 a1 a2 a3 a4 a5 a6 : Value} {t : TypeId} (hb : Below (w.alloc (.cells #[a0, a1, a2, a3, a4, a5, a6] t)).heap.size (w.alloc (.cells #[a0, a1, a2, a3, a4, a5, a6] t)) w1) :
    w1.heap[w.heap.size]? = some (.cells #[a0, a1, a2, a3, a4, a5, a6] t (0, 0)) ∧ Below w.heap.size w w1 ∧ w.heap.size < w1.heap.size := ⟨heap1 hb, below_of1 hb, by have := hb.size; simp at this; omega⟩
theorem cells7 {w1 : World} {b : Nat} {a0 a1 a2 a3 a4 a5 a6 : Value} {t : TypeId} (h : w1.heap[b]? = some (.cells #[a0, a1, a2, a3, a4, a5, a6] t (0, 0))) :
    w1.cell? ⟨b, 0, none⟩ = some a0 ∧ w1.cell? ⟨b, 1, none⟩ = some a1 ∧ w1.cell? ⟨b, 2, none⟩ = some a2 ∧ w1.cell? ⟨b, 3, none⟩ = some a3 ∧ w1.cell? ⟨b, 4, none⟩ = some a4 ∧ w1.cell? ⟨b, 5, none⟩ = some a5 ∧ w1.cell? ⟨b, 6, none⟩ = some a6 := by simp [World.cell?, h]

set_option maxHeartbeats 2000000 in
set_option maxRecDepth 100000 in
theorem sisPart_yes {α : Type} (x : ExN α) (a : Option Addr) (c : Nat) (w : World) (h0 : 0 ≤ x.op) (h1 : x.op < 23) :
    Calls Try.prog 108 #[x.val a c] w fun e w' => e = .returned (.bool (partB x)) ∧ Below w.heap.size w w' := by
  obtain ⟨op, ⟨k, n, s, hv⟩, t, m, l⟩ := x
  dsimp only at h0 h1
  obtain ⟨o, rfl⟩ := Int.eq_ofNat_of_zero_le h0
  have hF := fun w => formOfOp_yes o (by omega) w
  have HA := Lib.hid (fA_args o (by omega))
  unfold partB ExN.val
  dsimp only
  rw [← HA.out]
  by_cases hl : fA o = l.length
  · rw [hl] at hF ⊢
    have hle : l.length ≤ 2 := by
      have : ∀ k, k < 23 → fA k ≤ 2 := by decide
      have := this o (by omega)
      omega
    have hneq : ((l.length : Int) != (l.length : Int)) = false := by simp
    have hlit := fun w => sisLiteral_any k n s w
    generalize hE : eqV ⟨k, n, s, hv⟩ vl0 = E
    have heq : ∀ w, (binOp .eql 96 (.agg #[.int .i64 k, .int .i64 n, .string s]) (.agg #[.int .i64 0, .int .i64 0, .string ⟨#[]⟩])).run Try.prog w = .ok (.bool E) w := fun w => by rw [← hE]; exact run_eqV ⟨k, n, s, hv⟩ vl0 w
    clear hE
    have hn := fun (s : ByteArray) (w : World) => sName_any s w
    go_enter Try.func108, Try.ntmps108
    go_upto_region 4 with (go_at_call 113; refine (hF _).mono ?_; rintro e w1 ⟨rfl, hb⟩; obtain ⟨hh, hb1, hz1⟩ := box7 (o := .cells #[] 0) hb; obtain ⟨c0, c1, c2, c3, c4, c5, c6⟩ := cells7 hh; clear hh hb)
    have hA := below1 w1 (.cells #[.int .i64 l.length, .string (fH o), .string (fB o), .string (fE o)] 173)
    have hz2 : w.heap.size < (w1.alloc (.cells #[.int .i64 l.length, .string (fH o), .string (fB o), .string (fE o)] 173)).heap.size := by simp; omega
    have hb2 := below_call hA hb1 hb1.size
    have c0 := cell_keep c0 hA
    have c1 := cell_keep c1 hA
    have c2 := cell_keep c2 hA
    have c3 := cell_keep c3 hA
    have c4 := cell_keep c4 hA
    have c5 := cell_keep c5 hA
    have c6 := cell_keep c6 hA
    generalize (w1.alloc (.cells #[.int .i64 l.length, .string (fH o), .string (fB o), .string (fE o)] 173)) = w2 at c0 c1 c2 c3 c4 c5 c6 hb2 hz2 ⊢
    have HB := Lib.hid hb2
    clear hF hb2 hA hb1
    rcases (show o = 0 ∨ o = 1 ∨ 2 ≤ o by omega) with rfl | rfl | h2
    · clear hn heq
      go_wp2_with (go_at_call 114; refine (hlit _).mono ?_; rintro e w3 ⟨rfl, hb⟩; have HB := Lib.hid (below_call hb HB.out HB.out.size); clear hb)
      all_goals go_ret
      all_goals refine ⟨ret_bool (by simp [emp, *]), ?_⟩
      all_goals exact HB.out
    · have hn := Lib.hid hn
      clear hlit
      go_wp2_with (go_at_call 75; refine (hn.out _ _).mono ?_; rintro e w3 ⟨rfl, hb⟩; obtain ⟨hcc, hff⟩ := bcell hb; have HB := Lib.hid (below_call hb HB.out HB.out.size); clear hb)
      all_goals go_ret
      all_goals refine ⟨ret_bool (by simp [emp, *]), ?_⟩
      all_goals exact HB.out
    · have hn0 : ((o : Int) == 0) = false := by simp; omega
      have hn1 : ((o : Int) == 1) = false := by simp; omega
      have hi0 : ¬ o = 0 := by omega
      have hi1 : ¬ o = 1 := by omega
      clear hlit hn
      go_wp2
      all_goals go_ret
      all_goals refine ⟨ret_bool (by simp [emp, hi0, hi1, *]), ?_⟩
      all_goals exact HB.out
  · have hneq : ((l.length : Int) != fA o) = true := by simp; exact fun h => hl h.symm
    have hde : decide (fA o = (l.length : Int)) = false := by simp [hl]
    rw [hde, Bool.false_and]
    go_enter Try.func108, Try.ntmps108
    go_wp2_with (go_at_call 113; refine (hF _).mono ?_; rintro e w1 ⟨rfl, hb⟩; obtain ⟨hh, hb1, hz1⟩ := box7 (o := .cells #[] 0) hb; obtain ⟨c0, c1, c2, c3, c4, c5, c6⟩ := cells7 hh; clear hh hb)
    go_ret
    exact ⟨rfl, by (repeat (first | (with_reducible assumption) | (with_reducible exact Below.refl _ _) | (with_reducible refine Below.setCell ?_ (by first | omega | (simp; done) | (simp; omega)) _) | (with_reducible refine Below.alloc ?_ (by first | omega | (simp; done) | (simp; omega)) _) | (with_reducible refine below_drewN ?_ _) | (with_reducible refine Below.drew ?_)))⟩
theorem sisPart_any {α : Type} (x : ExN α) (a : Option Addr) (c : Nat) (w : World) : Calls Try.prog 108 #[x.val a c] w fun e w' => e = .returned (.bool (partB x)) ∧ Below w.heap.size w w' := by
  rcases (show (x.op < 0 ∨ 23 ≤ x.op) ∨ (0 ≤ x.op ∧ x.op < 23) by omega) with h | ⟨h, h'⟩
  · exact sisPart_no x a c w h
  · exact sisPart_yes x a c w h h'

theorem checkN_0 {k n : Int} {s : ByteArray} (h : mayB k n s = true) : checkN k n s = 0 := by simp [checkN, h]
theorem checkN_9 {k n : Int} {s : ByteArray} (h : mayB k n s = false) : checkN k n s = 9 := by simp [checkN, h]

end Go.Proofs.Ytddeaiciochggaa.Sy
