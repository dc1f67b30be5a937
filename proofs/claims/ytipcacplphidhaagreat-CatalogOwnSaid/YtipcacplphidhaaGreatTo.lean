/- Spans, and whether what stands in a statement's lists may be: the walks of has, hasName, isColumn, isRow, isSet, isOrder and all. Conditions: lists that are read in memory. -/
import Derived.Test.YtipcacplphidhaaGreatTh
import Derived.Test.YtipcacplphidhaaGreatTc
namespace Go.Proofs.YtipcacplphidhaaGreat.Sy
open Go.RowKit
set_option linter.unusedSimpArgs false
set_option linter.unusedVariables false

def spB (lo hi n : Int) : Bool := decide (lo ≤ n) && decide (n ≤ hi)
set_option maxHeartbeats 400000 in
theorem spHas_any (lo hi n : Int) (w : World) : Calls Tryz.prog 65 #[.agg #[.int .i64 lo, .int .i64 hi], .int .i64 n] w fun e w' => e = .returned (.bool (spB lo hi n)) ∧ Below w.heap.size w w' := by
  go_enter Tryz.func65, Tryz.ntmps65
  go_wp2
  all_goals go_ret
  all_goals refine ⟨ret_bool ?_, below1 _ _⟩
  all_goals unfold spB
  all_goals grind
/-- As many names as the span has: one, or none. -/
def hasNm (lo hi : Int) (s : ByteArray) : Bool := if s.toList.isEmpty = true then spB lo hi 0 else spB lo hi 1 && nameB s
set_option maxHeartbeats 1000000 in
theorem spHasname_any (lo hi : Int) (s : ByteArray) (w : World) : Calls Tryz.prog 64 #[.agg #[.int .i64 lo, .int .i64 hi], .string s] w fun e w' => e = .returned (.bool (hasNm lo hi s)) ∧ Below w.heap.size w w' := by
  have h0 := fun w => spHas_any lo hi 0 w
  have h1 := fun w => spHas_any lo hi 1 w
  have hn := fun w => sName_any s w
  unfold hasNm
  cases he : s.toList.isEmpty
  · have he2 : (!s.toList.isEmpty) = true := by simp [he]
    have he3 : ¬ s.toList = [] := by simpa using he
    have H1 := Lib.hid h1
    have HN := Lib.hid hn
    simp only [Bool.false_eq_true, if_false]
    clear h0 h1 hn
    cases hs : spB lo hi 1
    · rw [hs] at H1
      clear hs
      go_enter Tryz.func64, Tryz.ntmps64
      go_wp2_with (first | (go_at_call 65; refine (H1.out _).mono ?_; rintro e w1 ⟨rfl, hb⟩; have HB := Lib.hid (below_of1 hb); clear hb))
      go_ret
      exact ⟨rfl, HB.out⟩
    · rw [hs] at H1
      clear hs
      go_enter Tryz.func64, Tryz.ntmps64
      go_wp2_with (first | (go_at_call 65; refine (H1.out _).mono ?_; rintro e w1 ⟨rfl, hb⟩; have HB := Lib.hid (below_of1 hb); clear hb) | (go_at_call 81; refine (HN.out _).mono ?_; rintro e w2 ⟨rfl, hb⟩; have HB2 := Lib.hid (below_call hb HB.out HB.out.size); clear hb))
      go_ret
      exact ⟨ret_bool (by simp), HB2.out⟩
  · have he3 : s.toList = [] := by simpa using he
    have H0 := Lib.hid h0
    simp only [if_true]
    clear h0 h1 hn
    go_enter Tryz.func64, Tryz.ntmps64
    go_wp2_with (first | (go_at_call 65; refine (H0.out _).mono ?_; rintro e w1 ⟨rfl, hb⟩; have HB := Lib.hid (below_of1 hb); clear hb))
    go_ret
    exact ⟨rfl, HB.out⟩

def colB (x : Cl) : Bool := nameB x.m && spB 1 3 x.k
def rowB {α : Type} (r : List α) : Bool := spB 1 8 r.length
def setB {n : Nat} (s : Sx n) : Bool := nameB s.m
def ordB (o : Od) : Bool := spB 1 16 o.n

set_option maxHeartbeats 1000000 in
theorem sisColumn_any (x : Cl) (w : World) : Calls Tryz.prog 67 #[x.val] w fun e w' => e = .returned (.bool (colB x)) ∧ Below w.heap.size w w' := by
  obtain ⟨m, k, nn⟩ := x
  unfold Cl.val colB
  dsimp only
  have HH := Lib.hid fun w => spHas_any 1 3 k w
  have HN := Lib.hid fun w => sName_any m w
  cases hs : nameB m
  · rw [hs] at HN
    clear hs
    go_enter Tryz.func67, Tryz.ntmps67
    go_wp2_with (first | (go_at_call 81; refine (HN.out _).mono ?_; rintro e w1 ⟨rfl, hb⟩; have HB := Lib.hid (below_of1 hb); clear hb))
    go_ret
    exact ⟨rfl, HB.out⟩
  · rw [hs] at HN
    clear hs
    go_enter Tryz.func67, Tryz.ntmps67
    go_wp2_with (first | (go_at_call 81; refine (HN.out _).mono ?_; rintro e w1 ⟨rfl, hb⟩; obtain ⟨hcc, hff⟩ := bcell hb; have HB := Lib.hid (below_of1 hb); clear hb) | (go_at_call 65; refine (HH.out _).mono ?_; rintro e w2 ⟨rfl, hb⟩; have HB2 := Lib.hid (below_call hb HB.out HB.out.size); clear hb))
    go_ret
    exact ⟨ret_bool (by simp), HB2.out⟩
set_option maxHeartbeats 400000 in
theorem sisRow_any {α : Type} (r : List α) (a : Option Addr) (c : Nat) (w : World) : Calls Tryz.prog 69 #[.slice a r.length c] w fun e w' => e = .returned (.bool (rowB r)) ∧ Below w.heap.size w w' := by
  have HH := Lib.hid fun w => spHas_any 1 8 r.length w
  go_enter Tryz.func69, Tryz.ntmps69
  go_wp2_with (go_at_call 65; refine (HH.out _).mono ?_; rintro e w1 ⟨rfl, hb⟩; have HB := Lib.hid hb; clear hb)
  go_ret
  exact ⟨rfl, HB.out⟩
set_option maxHeartbeats 400000 in
theorem sisSet_any {n : Nat} (s : Sx n) (a : Option Addr) (c : Nat) (w : World) : Calls Tryz.prog 71 #[s.val a c] w fun e w' => e = .returned (.bool (setB s)) ∧ Below w.heap.size w w' := by
  obtain ⟨m, ⟨op, ⟨k, v, s', hv⟩, t, mm, l⟩⟩ := s
  unfold Sx.val setB
  dsimp only
  have HN := Lib.hid fun w => sName_any m w
  go_enter Tryz.func71, Tryz.ntmps71
  go_wp2_with (go_at_call 81; refine (HN.out _).mono ?_; rintro e w1 ⟨rfl, hb⟩; have HB := Lib.hid (below_of1 hb); clear hb)
  go_ret
  exact ⟨rfl, HB.out⟩
set_option maxHeartbeats 400000 in
theorem sisOrder_any (x : Od) (w : World) : Calls Tryz.prog 73 #[x.val] w fun e w' => e = .returned (.bool (ordB x)) ∧ Below w.heap.size w w' := by
  obtain ⟨n, d⟩ := x
  unfold Od.val ordB
  dsimp only
  have HH := Lib.hid fun w => spHas_any 1 16 n w
  go_enter Tryz.func73, Tryz.ntmps73
  go_wp2_with (go_at_call 65; refine (HH.out _).mono ?_; rintro e w1 ⟨rfl, hb⟩; have HB := Lib.hid (below_of1 hb); clear hb)
  go_ret
  exact ⟨rfl, HB.out⟩

theorem all_step {α : Type} {f : α → Bool} {l : List α} {j : Nat} {y : α} (h : l[j]? = some y) (h0 : f y = true) : l.all f = true ↔ (l.take (j + 1)).all f = true ∧ (l.drop (j + 1)).all f = true := by
  conv => lhs; rw [← List.take_append_drop (j + 1) l, List.all_append, Bool.and_eq_true]
theorem take_all {α : Type} {f : α → Bool} {l : List α} {j : Nat} {y : α} (h : l[j]? = some y) (h1 : (l.take j).all f = true) (h0 : f y = true) : (l.take (j + 1)).all f = true := by
  rw [List.take_add_one, h, List.all_append, h1]; simp [h0]
theorem all_no {α : Type} {f : α → Bool} {l : List α} {j : Nat} {y : α} (h : l[j]? = some y) (h0 : f y = false) : l.all f = false := by
  rw [Bool.eq_false_iff]
  intro h'
  have := List.all_eq_true.1 h' y (List.mem_of_getElem? h)
  rw [h0] at this; cases this
theorem all_yes {α : Type} {f : α → Bool} {l : List α} {j : Nat} (h1 : (l.take j).all f = true) (h : l.length ≤ j) : l.all f = true := by rw [List.take_of_length_le h] at h1; exact h1

set_option maxHeartbeats 1000000 in
set_option maxRecDepth 100000 in
theorem sallColumn_any (A : Option Addr) (k c : Nat) (l : List Cl) (w : World) (hl : k = l.length) (rl : RdK KC Any w A c l) :
    Calls Tryz.prog 66 #[.slice A k c, .func (.func 67) #[] #[]] w fun e w' => e = .returned (.bool (l.all colB)) ∧ Below w.heap.size w w' := by
  have hk : k ≤ 9223372036854775807 := by have := rl.hdr.2; omega
  have RL := Lib.hid rl
  have HL := Lib.hid hl
  clear rl hl
  go_enter Tryz.func66, Tryz.ntmps66
  go_wp2_with fail
  go_loopw [9] (fun i wr => ∃ j : Nat, j ≤ k ∧ i = .int .i64 j ∧ (l.take j).all colB = true ∧ Below w.heap.size w wr) (fun i _ => k - (intOf i).toNat)
  case atStart => exact ⟨0, by omega, rfl, rfl, Below.refl _ _⟩
  case round =>
    obtain ⟨j, hj, rfl, hw, hb⟩ := hrel
    have HW := Lib.hid hw
    have HB := Lib.hid hb
    have hz := hb.size
    clear hw hb
    by_cases hlt : j < k
    · obtain ⟨ad, rfl, p0, p1, p2⟩ := (RL.out.below KC_ok HB.out).col (j := j) (by have := HL.out; omega)
      have hx : l[j]? = some l[j] := List.getElem?_eq_getElem (by have := HL.out; omega)
      generalize l[j] = y at p0 p1 p2 hx
      have hc := fun w => sisColumn_any y w
      have HS := Lib.hid fun h => take_all (y := y) hx HW.out h
      have HN := Lib.hid fun h => all_no (f := colB) hx h
      cases hf : colB y
      · rw [hf] at hc
        have HC := Lib.hid hc
        have HN := Lib.hid (HN.out hf)
        clear hc hf hx
        go_wp2_with (go_at_call 67; refine (HC.out _).mono ?_; rintro e w2 ⟨rfl, hb⟩; have HB2 := Lib.hid (below_call (below_of1 hb) HB.out HB.out.size); clear hb)
        go_ret
        exact ⟨ret_bool HN.out.symm, HB2.out⟩
      · rw [hf] at hc
        have HC := Lib.hid hc
        have HS := Lib.hid (HS.out hf)
        clear hc hf hx
        go_wp2_with (go_at_call 67; refine (HC.out _).mono ?_; rintro e w2 ⟨rfl, hb⟩; have HB2 := Lib.hid (below_call (below_of1 hb) HB.out HB.out.size); clear hb)
        go_roundw
        case rel => exact ⟨j + 1, by omega, by go_num, HS.out, HB2.out⟩
        case measure => simp [intOf]; omega
    · have HN := Lib.hid (all_yes HW.out (by have := HL.out; omega))
      go_wp2
      go_ret
      exact ⟨ret_bool HN.out.symm, HB.out⟩

set_option maxHeartbeats 1000000 in
set_option maxRecDepth 100000 in
theorem sallExprs_any {n : Nat} (A : Option Addr) (k c : Nat) (l : List (List (Ar n))) (w : World) (hl : k = l.length) (rl : RdK (KR n) Any w A c l) :
    Calls Tryz.prog 68 #[.slice A k c, .func (.func 69) #[] #[]] w fun e w' => e = .returned (.bool (l.all rowB)) ∧ Below w.heap.size w w' := by
  have hk : k ≤ 9223372036854775807 := by have := rl.hdr.2; omega
  have RL := Lib.hid rl
  have HL := Lib.hid hl
  clear rl hl
  go_enter Tryz.func68, Tryz.ntmps68
  go_wp2_with fail
  go_loopw [9] (fun i wr => ∃ j : Nat, j ≤ k ∧ i = .int .i64 j ∧ (l.take j).all rowB = true ∧ Below w.heap.size w wr) (fun i _ => k - (intOf i).toNat)
  case atStart => exact ⟨0, by omega, rfl, rfl, Below.refl _ _⟩
  case round =>
    obtain ⟨j, hj, rfl, hw, hb⟩ := hrel
    have HW := Lib.hid hw
    have HB := Lib.hid hb
    have hz := hb.size
    clear hw hb
    by_cases hlt : j < k
    · obtain ⟨ad, a1, c1, rfl, p0, _⟩ := (RL.out.below (KR_ok n) HB.out).row (j := j) (by have := HL.out; omega)
      have hx : l[j]? = some l[j] := List.getElem?_eq_getElem (by have := HL.out; omega)
      generalize l[j] = y at p0 hx
      have hc := fun w => sisRow_any y a1 c1 w
      have HS := Lib.hid fun h => take_all (y := y) hx HW.out h
      have HN := Lib.hid fun h => all_no (f := rowB) hx h
      cases hf : rowB y
      · rw [hf] at hc
        have HC := Lib.hid hc
        have HN := Lib.hid (HN.out hf)
        clear hc hf hx
        go_wp2_with (go_at_call 69; refine (HC.out _).mono ?_; rintro e w2 ⟨rfl, hb⟩; have HB2 := Lib.hid (below_call hb HB.out HB.out.size); clear hb)
        go_ret
        exact ⟨ret_bool HN.out.symm, HB2.out⟩
      · rw [hf] at hc
        have HC := Lib.hid hc
        have HS := Lib.hid (HS.out hf)
        clear hc hf hx
        go_wp2_with (go_at_call 69; refine (HC.out _).mono ?_; rintro e w2 ⟨rfl, hb⟩; have HB2 := Lib.hid (below_call hb HB.out HB.out.size); clear hb)
        go_roundw
        case rel => exact ⟨j + 1, by omega, by go_num, HS.out, HB2.out⟩
        case measure => simp [intOf]; omega
    · have HN := Lib.hid (all_yes HW.out (by have := HL.out; omega))
      go_wp2
      go_ret
      exact ⟨ret_bool HN.out.symm, HB.out⟩

set_option maxHeartbeats 1000000 in
set_option maxRecDepth 100000 in
theorem sallSet_any {n : Nat} (A : Option Addr) (k c : Nat) (l : List (Sx n)) (w : World) (hl : k = l.length) (rl : RdK (KS n) Any w A c l) :
    Calls Tryz.prog 70 #[.slice A k c, .func (.func 71) #[] #[]] w fun e w' => e = .returned (.bool (l.all setB)) ∧ Below w.heap.size w w' := by
  have hk : k ≤ 9223372036854775807 := by have := rl.hdr.2; omega
  have RL := Lib.hid rl
  have HL := Lib.hid hl
  clear rl hl
  go_enter Tryz.func70, Tryz.ntmps70
  go_wp2_with fail
  go_loopw [9] (fun i wr => ∃ j : Nat, j ≤ k ∧ i = .int .i64 j ∧ (l.take j).all setB = true ∧ Below w.heap.size w wr) (fun i _ => k - (intOf i).toNat)
  case atStart => exact ⟨0, by omega, rfl, rfl, Below.refl _ _⟩
  case round =>
    obtain ⟨j, hj, rfl, hw, hb⟩ := hrel
    have HW := Lib.hid hw
    have HB := Lib.hid hb
    have hz := hb.size
    clear hw hb
    by_cases hlt : j < k
    · obtain ⟨ad, a1, c1, rfl, ⟨p0, p1, p2, p3, p4, p5, p6, p7⟩, _⟩ := (RL.out.below (KS_ok n) HB.out).set (j := j) (by have := HL.out; omega)
      have hx : l[j]? = some l[j] := List.getElem?_eq_getElem (by have := HL.out; omega)
      generalize l[j] = y at p0 p1 p2 p3 p4 p5 p6 p7 hx
      have hc := fun w => sisSet_any y a1 c1 w
      have HS := Lib.hid fun h => take_all (y := y) hx HW.out h
      have HN := Lib.hid fun h => all_no (f := setB) hx h
      cases hf : setB y
      · rw [hf] at hc
        have HC := Lib.hid hc
        have HN := Lib.hid (HN.out hf)
        clear hc hf hx
        go_wp2_with (go_at_call 71; refine (HC.out _).mono ?_; rintro e w2 ⟨rfl, hb⟩; have HB2 := Lib.hid (below_call (below_of1 hb) HB.out HB.out.size); clear hb)
        go_ret
        exact ⟨ret_bool HN.out.symm, HB2.out⟩
      · rw [hf] at hc
        have HC := Lib.hid hc
        have HS := Lib.hid (HS.out hf)
        clear hc hf hx
        go_wp2_with (go_at_call 71; refine (HC.out _).mono ?_; rintro e w2 ⟨rfl, hb⟩; have HB2 := Lib.hid (below_call (below_of1 hb) HB.out HB.out.size); clear hb)
        go_roundw
        case rel => exact ⟨j + 1, by omega, by go_num, HS.out, HB2.out⟩
        case measure => simp [intOf]; omega
    · have HN := Lib.hid (all_yes HW.out (by have := HL.out; omega))
      go_wp2
      go_ret
      exact ⟨ret_bool HN.out.symm, HB.out⟩

set_option maxHeartbeats 1000000 in
set_option maxRecDepth 100000 in
theorem sallOrder_any (A : Option Addr) (k c : Nat) (l : List Od) (w : World) (hl : k = l.length) (rl : RdK KO Any w A c l) :
    Calls Tryz.prog 72 #[.slice A k c, .func (.func 73) #[] #[]] w fun e w' => e = .returned (.bool (l.all ordB)) ∧ Below w.heap.size w w' := by
  have hk : k ≤ 9223372036854775807 := by have := rl.hdr.2; omega
  have RL := Lib.hid rl
  have HL := Lib.hid hl
  clear rl hl
  go_enter Tryz.func72, Tryz.ntmps72
  go_wp2_with fail
  go_loopw [9] (fun i wr => ∃ j : Nat, j ≤ k ∧ i = .int .i64 j ∧ (l.take j).all ordB = true ∧ Below w.heap.size w wr) (fun i _ => k - (intOf i).toNat)
  case atStart => exact ⟨0, by omega, rfl, rfl, Below.refl _ _⟩
  case round =>
    obtain ⟨j, hj, rfl, hw, hb⟩ := hrel
    have HW := Lib.hid hw
    have HB := Lib.hid hb
    have hz := hb.size
    clear hw hb
    by_cases hlt : j < k
    · obtain ⟨ad, rfl, p0, p1⟩ := (RL.out.below KO_ok HB.out).ord (j := j) (by have := HL.out; omega)
      have hx : l[j]? = some l[j] := List.getElem?_eq_getElem (by have := HL.out; omega)
      generalize l[j] = y at p0 p1 hx
      have hc := fun w => sisOrder_any y w
      have HS := Lib.hid fun h => take_all (y := y) hx HW.out h
      have HN := Lib.hid fun h => all_no (f := ordB) hx h
      cases hf : ordB y
      · rw [hf] at hc
        have HC := Lib.hid hc
        have HN := Lib.hid (HN.out hf)
        clear hc hf hx
        go_wp2_with (go_at_call 73; refine (HC.out _).mono ?_; rintro e w2 ⟨rfl, hb⟩; have HB2 := Lib.hid (below_call (below_of1 hb) HB.out HB.out.size); clear hb)
        go_ret
        exact ⟨ret_bool HN.out.symm, HB2.out⟩
      · rw [hf] at hc
        have HC := Lib.hid hc
        have HS := Lib.hid (HS.out hf)
        clear hc hf hx
        go_wp2_with (go_at_call 73; refine (HC.out _).mono ?_; rintro e w2 ⟨rfl, hb⟩; have HB2 := Lib.hid (below_call (below_of1 hb) HB.out HB.out.size); clear hb)
        go_roundw
        case rel => exact ⟨j + 1, by omega, by go_num, HS.out, HB2.out⟩
        case measure => simp [intOf]; omega
    · have HN := Lib.hid (all_yes HW.out (by have := HL.out; omega))
      go_wp2
      go_ret
      exact ⟨ret_bool HN.out.symm, HB.out⟩
end Go.Proofs.YtipcacplphidhaaGreat.Sy
