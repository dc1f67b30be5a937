/- What the reference's walk, CheckExpr and exprs answer: the walks. Conditions: expressions that are read in memory. -/
import Derived.Test.YtipcacplphidhaaGreatTl0
namespace Go.Proofs.YtipcacplphidhaaGreat.Sy
open Go.RowKit
set_option linter.unusedSimpArgs false
set_option linter.unusedVariables false

/-- What walk answers, R being what comes of its count. -/
def WkPost (R : Nat × Int) (w : World) (e : Ending) (w' : World) : Prop := e = .returned (.tuple #[.int .i64 R.1, .int .i64 R.2]) ∧ Below w.heap.size w w'
theorem WkPost.of {R : Nat × Int} {w w' : World} {c : Nat} {x : Int} (h : R = (c, x)) (hb : Below w.heap.size w w') : WkPost R w (.returned (.tuple #[.int .i64 c, .int .i64 x])) w' := by
  subst h; exact ⟨rfl, hb⟩

set_option maxHeartbeats 1000000 in
set_option maxRecDepth 100000 in
theorem rwalk_deep {n : Nat} (x : ExN (Ar n)) (a : Option Addr) (cc lvl c : Nat) (w : World) (hl : 12 < lvl) :
    Calls Tryz.prog 59 #[x.val a cc, .int .i64 lvl, .int .i64 c] w (WkPost (wkX lvl c x) w) := by
  have HR := Lib.hid (wkX_deep (c := c) (x := x) hl)
  obtain ⟨op, ⟨k, v, s, hv⟩, t, m, l⟩ := x
  unfold ExN.val
  dsimp only at HR ⊢
  go_enter Tryz.func59, Tryz.ntmps59
  go_wp2
  go_ret2
  exact WkPost.of HR.out (below1 _ _)
set_option maxHeartbeats 1000000 in
set_option maxRecDepth 100000 in
theorem rwalk_many {n : Nat} (x : ExN (Ar n)) (a : Option Addr) (cc lvl c : Nat) (w : World) (hl : lvl ≤ 12) (hc : 64 ≤ c) :
    Calls Tryz.prog 59 #[x.val a cc, .int .i64 lvl, .int .i64 c] w (WkPost (wkX lvl c x) w) := by
  have HR := Lib.hid (wkX_many (x := x) (show ¬ 12 < lvl by omega) hc)
  obtain ⟨op, ⟨k, v, s, hv⟩, t, m, l⟩ := x
  unfold ExN.val
  dsimp only at HR ⊢
  go_enter Tryz.func59, Tryz.ntmps59
  go_wp2
  go_ret2
  exact WkPost.of HR.out (below1 _ _)
set_option maxHeartbeats 1000000 in
set_option maxRecDepth 100000 in
theorem rwalk_part {n : Nat} (x : ExN (Ar n)) (a : Option Addr) (cc lvl c : Nat) (w : World) (hl : lvl ≤ 12) (hc : c < 64) (hp : partB x = false) :
    Calls Tryz.prog 59 #[x.val a cc, .int .i64 lvl, .int .i64 c] w (WkPost (wkX lvl c x) w) := by
  have HR := Lib.hid (wkX_part (x := x) (show ¬ 12 < lvl by omega) (show ¬ 64 ≤ c by omega) hp)
  have hP := fun w => rpart_any x a cc w
  rw [hp] at hP
  clear hp
  obtain ⟨op, ⟨k, v, s, hv⟩, t, m, l⟩ := x
  unfold ExN.val at hP ⊢
  dsimp only at HR hP ⊢
  go_enter Tryz.func59, Tryz.ntmps59
  go_wp2_with (go_at_call 80; refine (hP _).mono ?_; rintro e w1 ⟨rfl, hb⟩; have HB := Lib.hid (below_of1 hb); clear hb)
  go_ret2
  exact WkPost.of HR.out HB.out

set_option maxHeartbeats 2000000 in
set_option maxRecDepth 100000 in
theorem rwalk_on {n : Nat} (hE : ∀ (y : Ar n) (a : Option Addr) (cc lvl c : Nat) (w : World), RdE w (n - 1) a cc y.e.l → c ≤ 64 → lvl ≤ 13 →
      Calls Tryz.prog 59 #[y.e.val a cc, .int .i64 lvl, .int .i64 c] w (WkPost (wk n lvl c y) w))
    (x : ExN (Ar n)) (a : Option Addr) (cc lvl c : Nat) (w : World) (hr : RdE w n a cc x.l) (hl : lvl ≤ 12) (hc' : c < 64) (hp : partB x = true) :
    Calls Tryz.prog 59 #[x.val a cc, .int .i64 lvl, .int .i64 c] w (WkPost (wkX lvl c x) w) := by
  have HR := Lib.hid (wkX_on (x := x) (show ¬ 12 < lvl by omega) (show ¬ 64 ≤ c by omega) hp)
  have HL := Lib.hid hr
  have hle : x.l.length ≤ 9223372036854775807 := by have := hr.hdr.2; omega
  have hP := fun w => rpart_any x a cc w
  rw [hp] at hP
  clear hp hr
  obtain ⟨op, ⟨k, v, s, hv⟩, t, m, l⟩ := x
  unfold ExN.val at hP ⊢
  dsimp only at HR hP HL hle ⊢
  go_enter Tryz.func59, Tryz.ntmps59
  go_wp2_with (go_at_call 80; refine (hP _).mono ?_; rintro e w1 ⟨rfl, hb⟩; obtain ⟨hh, hb1, hz1⟩ := box7 (o := .cells #[] 0) hb; have HH := Lib.hid hh; have HB := Lib.hid hb1; clear hb hh hb1)
  clear hP
  go_loopw [2, 8, 9, 10] (fun nn i _ _ wr => ∃ j cj : Nat, j ≤ l.length ∧ i = .int .i64 j ∧ nn = .int .i64 cj ∧ cj ≤ 64 ∧ wkAll (wk n (lvl + 1)) (c + 1) l = wkAll (wk n (lvl + 1)) cj (l.drop j) ∧ Below w.heap.size w wr ∧ wr.heap[w.heap.size]? = some (.cells #[.int .i64 op, .int .i64 k, .int .i64 v, .string s, .string t, .string m, .slice a l.length cc] 62 (0, 0))) (fun _ i _ _ _ => l.length - (intOf i).toNat)
  case atStart => exact ⟨0, c + 1, by omega, rfl, by go_num, by omega, rfl, HB.out, HH.out⟩
  case round =>
    obtain ⟨j, cj, hj, rfl, rfl, hcj, hw, hb, hh⟩ := hrel
    have HW := Lib.hid hw
    have HB := Lib.hid hb
    have HH := Lib.hid hh
    have hgz := hb.size
    have hgz2 : w.heap.size < wr.heap.size := by
      rcases Nat.lt_or_ge w.heap.size wr.heap.size with h' | h'
      · exact h'
      · rw [Array.getElem?_eq_none h'] at hh; cases hh
    obtain ⟨q0, q1, q2, q3, q4, q5, q6⟩ := cells7 hh
    clear hw hb hh q0 q1 q2 q3 q4 q5
    by_cases hlt2 : j < l.length
    · obtain ⟨ad, a1, k1, rfl, ⟨p0, p1, p2, p3, p4, p5, p6⟩, r1⟩ := (HL.out.below (KE_ok n) HB.out).at_ (j := j) hlt2
      have hx : l[j]? = some l[j] := List.getElem?_eq_getElem hlt2
      generalize l[j] = y at p0 p1 p2 p3 p4 p5 p6 r1 hx
      have hc := hE y a1 k1 (lvl + 1) cj wr r1 hcj (by omega)
      have HS1 : Hid ((wk n (lvl + 1) cj y).2 = 0 → wkAll (wk n (lvl + 1)) cj (l.drop j) = wkAll (wk n (lvl + 1)) (wk n (lvl + 1) cj y).1 (l.drop (j + 1))) := Lib.hid fun h => wkAll_step hx h
      have HS2 : Hid ((wk n (lvl + 1) cj y).2 ≠ 0 → wkAll (wk n (lvl + 1)) cj (l.drop j) = wk n (lvl + 1) cj y) := Lib.hid fun h => wkAll_stop hx h
      have HK := Lib.hid (wk_le n (lvl + 1) cj y hcj)
      have e : ((lvl + 1 : Nat) : Int) = (lvl : Int) + 1 := by simp
      rw [e] at hc
      clear hx r1 e
      generalize wk n (lvl + 1) cj y = q at hc HS1 HS2 HK
      obtain ⟨K, x⟩ := q
      dsimp only at HS1 HS2 HK
      have HC := Lib.hid hc
      clear hc
      by_cases h0 : x = 0
      · have HN := Lib.hid (HW.out.trans (HS1.out h0))
        subst h0
        go_wp2_with (go_at_call 59; refine HC.out.mono ?_; rintro e w2 ⟨rfl, hb⟩; have HB2 := Lib.hid (below_call hb HB.out HB.out.size); have HH2 := Lib.hid ((hb.block _ hgz2).trans HH.out); clear hb)
        go_roundw
        case rel => exact ⟨j + 1, K, by omega, by go_num, rfl, HK.out, HN.out, HB2.out, HH2.out⟩
        case measure => simp [intOf]; omega
      · have hx0 : (x != 0) = true := by simp [h0]
        have HN := Lib.hid (HR.out.trans (HW.out.trans (HS2.out h0)))
        clear h0
        go_wp2_with (go_at_call 59; refine HC.out.mono ?_; rintro e w2 ⟨rfl, hb⟩; have HB2 := Lib.hid (below_call hb HB.out HB.out.size); clear hb)
        go_ret2
        exact WkPost.of HN.out HB2.out
    · have HN := Lib.hid (HR.out.trans (HW.out.trans (wkAll_end (by omega))))
      go_wp2
      go_ret2
      exact WkPost.of HN.out HB.out

theorem rwalkX_any {n : Nat} (hE : ∀ (y : Ar n) (a : Option Addr) (cc lvl c : Nat) (w : World), RdE w (n - 1) a cc y.e.l → c ≤ 64 → lvl ≤ 13 →
      Calls Tryz.prog 59 #[y.e.val a cc, .int .i64 lvl, .int .i64 c] w (WkPost (wk n lvl c y) w))
    (x : ExN (Ar n)) (a : Option Addr) (cc lvl c : Nat) (w : World) (hr : RdE w n a cc x.l) (hc : c ≤ 64) (hl : lvl ≤ 13) :
    Calls Tryz.prog 59 #[x.val a cc, .int .i64 lvl, .int .i64 c] w (WkPost (wkX lvl c x) w) := by
  by_cases h : 12 < lvl
  · exact rwalk_deep x a cc lvl c w h
  by_cases h' : 64 ≤ c
  · exact rwalk_many x a cc lvl c w (by omega) h'
  cases hp : partB x
  · exact rwalk_part x a cc lvl c w (by omega) (by omega) hp
  · exact rwalk_on hE x a cc lvl c w hr (by omega) (by omega) hp
theorem rwalk_any : ∀ (n : Nat) (y : Ar n) (a : Option Addr) (cc lvl c : Nat) (w : World), RdE w (n - 1) a cc y.e.l → c ≤ 64 → lvl ≤ 13 →
      Calls Tryz.prog 59 #[y.e.val a cc, .int .i64 lvl, .int .i64 c] w (WkPost (wk n lvl c y) w)
  | 0, y, _, _, _, _, _, _, _, _ => Empty.elim y
  | n + 1, y, a, cc, lvl, c, w, hr, hc, hl => rwalkX_any (rwalk_any n) y a cc lvl c w hr hc hl

set_option maxHeartbeats 1000000 in
theorem rCheckExpr_any {n : Nat} (x : ExN (Ar n)) (a : Option Addr) (cc : Nat) (w : World) (hr : RdE w n a cc x.l) :
    Calls Tryz.prog 46 #[x.val a cc] w fun e w' => e = .returned (.int .i64 (chkX x)) ∧ Below w.heap.size w w' := by
  have HA : Hid (∀ w', Below w.heap.size w w' → Calls Tryz.prog 59 #[x.val a cc, .int .i64 1, .int .i64 0] w' (WkPost (wkX 1 0 x) w')) := Lib.hid fun w' hb => rwalkX_any (rwalk_any n) x a cc 1 0 w' (hr.below (KE_ok n) hb) (by omega) (by omega)
  have HC : Hid (chkX x = (wkX 1 0 x).2) := Lib.hid rfl
  generalize wkX 1 0 x = R at HA HC
  obtain ⟨K, E⟩ := R
  dsimp only at HC
  generalize chkX x = C at HC ⊢
  obtain rfl : C = E := HC.out
  obtain ⟨op, ⟨k, v, s, hv⟩, t, m, l⟩ := x
  unfold ExN.val
  dsimp only at HA ⊢
  clear hr HC
  go_enter Tryz.func46, Tryz.ntmps46
  go_wp2_with (go_at_call 59; refine (HA.out _ (below1 _ _)).mono ?_; rintro e w2 ⟨rfl, hb⟩; have HB2 := Lib.hid (below_of1 hb); clear hb)
  go_ret
  exact ⟨rfl, HB2.out⟩

/-- The first error of a list. -/
def chkAll {α : Type} (f : α → Int) : List α → Int
  | [] => 0
  | y :: l => if f y = 0 then chkAll f l else f y
theorem chkAll_step {α : Type} {f : α → Int} {l : List α} {j : Nat} {y : α} (h : l[j]? = some y) (h0 : f y = 0) : chkAll f (l.drop j) = chkAll f (l.drop (j + 1)) := by
  have hj : j < l.length := (List.getElem?_eq_some_iff.1 h).1
  rw [List.drop_eq_getElem_cons hj, (List.getElem?_eq_some_iff.1 h).2, chkAll, if_pos h0]
theorem chkAll_stop {α : Type} {f : α → Int} {l : List α} {j : Nat} {y : α} (h : l[j]? = some y) (h0 : f y ≠ 0) : chkAll f (l.drop j) = f y := by
  have hj : j < l.length := (List.getElem?_eq_some_iff.1 h).1
  rw [List.drop_eq_getElem_cons hj, (List.getElem?_eq_some_iff.1 h).2, chkAll, if_neg h0]
theorem chkAll_end {α : Type} {f : α → Int} {l : List α} {j : Nat} (h : l.length ≤ j) : chkAll f (l.drop j) = 0 := by
  rw [List.drop_of_length_le h]; rfl
/-- What CheckExpr answers of an Arg. -/
def chk {n : Nat} (y : Ar n) : Int := chkX y.e

set_option maxHeartbeats 1000000 in
set_option maxRecDepth 100000 in
theorem rexprs_any {n : Nat} (A : Option Addr) (k c : Nat) (l : List (Ar n)) (w : World) (hl : k = l.length) (rl : RdE w n A c l) :
    Calls Tryz.prog 45 #[.slice A k c] w fun e w' => e = .returned (.int .i64 (chkAll chk l)) ∧ Below w.heap.size w w' := by
  have hk : k ≤ 9223372036854775807 := by have := rl.hdr.2; omega
  have RL := Lib.hid rl
  have HL := Lib.hid hl
  clear rl hl
  go_enter Tryz.func45, Tryz.ntmps45
  go_wp2_with fail
  go_loopw [3, 4] (fun i _ wr => ∃ j : Nat, j ≤ k ∧ i = .int .i64 j ∧ chkAll chk l = chkAll chk (l.drop j) ∧ Below w.heap.size w wr) (fun i _ _ => k - (intOf i).toNat)
  case atStart => exact ⟨0, by omega, rfl, rfl, Below.refl _ _⟩
  case round =>
    obtain ⟨j, hj, rfl, hw, hb⟩ := hrel
    have HW := Lib.hid hw
    have HB := Lib.hid hb
    clear hw hb
    by_cases hlt : j < k
    · obtain ⟨ad, a1, k1, rfl, ⟨p0, p1, p2, p3, p4, p5, p6⟩, r1⟩ := (RL.out.below (KE_ok n) HB.out).at_ (j := j) (by have := HL.out; omega)
      have hx : l[j]? = some l[j] := List.getElem?_eq_getElem (by have := HL.out; omega)
      generalize l[j] = y at p0 p1 p2 p3 p4 p5 p6 r1 hx
      have hc := rCheckExpr_any y.e a1 k1 wr r1
      have HS1 : Hid (chk y = 0 → chkAll chk (l.drop j) = chkAll chk (l.drop (j + 1))) := Lib.hid fun h => chkAll_step hx h
      have HS2 : Hid (chk y ≠ 0 → chkAll chk (l.drop j) = chk y) := Lib.hid fun h => chkAll_stop hx h
      change Calls _ _ _ _ (fun e w' => e = .returned (.int .i64 (chk y)) ∧ _) at hc
      generalize chk y = C at hc HS1 HS2
      have HC := Lib.hid hc
      clear hx r1 hc
      by_cases h0 : C = 0
      · have HN := Lib.hid (HW.out.trans (HS1.out h0))
        subst h0
        go_wp2_with (go_at_call 46; refine HC.out.mono ?_; rintro e w2 ⟨rfl, hb⟩; have HB2 := Lib.hid (below_call hb HB.out HB.out.size); clear hb)
        go_roundw
        case rel => exact ⟨j + 1, by omega, by go_num, HN.out, HB2.out⟩
        case measure => simp [intOf]; omega
      · have hx0 : (C != 0) = true := by simp [h0]
        have HN := Lib.hid (HW.out.trans (HS2.out h0))
        clear h0
        go_wp2_with (go_at_call 46; refine HC.out.mono ?_; rintro e w2 ⟨rfl, hb⟩; have HB2 := Lib.hid (below_call hb HB.out HB.out.size); clear hb)
        go_ret
        exact ⟨ret_int HN.out.symm, HB2.out⟩
    · have HN := Lib.hid (HW.out.trans (chkAll_end (by have := HL.out; omega)))
      go_wp2
      go_ret
      exact ⟨ret_int HN.out.symm, HB.out⟩
end Go.Proofs.YtipcacplphidhaaGreat.Sy
