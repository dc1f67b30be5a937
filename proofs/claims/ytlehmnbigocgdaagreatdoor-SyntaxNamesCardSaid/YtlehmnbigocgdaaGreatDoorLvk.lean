/- What the reader's token answers: the walks, one for each kind. Conditions: a reader in a block of its own, ahead of an octet; strconv.ErrRange holds an error. -/
import Derived.Test.YtlehmnbigocgdaaGreatDoorLvj
namespace Go.Proofs.YtlehmnbigocgdaaGreatDoor.Lx
open Go.RowKit
set_option linter.unusedSimpArgs false
set_option linter.unusedVariables false

/-- What token answers, R what the plain function makes of what is left. -/
def TokPost (R : Option (Nat × List UInt8 × Nat × List UInt8)) (w : World) (g : Nat) (s : ByteArray) (j : Nat) (e : Ending) (w' : World) : Prop :=
  match R with
  | some (k, t, n, r) => e = .returned (.tuple #[.agg #[.int .i64 k, .string ⟨t.toArray⟩, .int .i64 n, .int .i64 j], .bool true]) ∧ (∃ i, i ≤ s.size ∧ rest s i = r ∧ Rdr w' g s i) ∧ w.grownBy w' (some g)
  | none => (∃ (a : Int) (b : ByteArray) (c d : Int), e = .returned (.tuple #[.agg #[.int .i64 a, .string b, .int .i64 c, .int .i64 d], .bool false])) ∧ w.grownBy w' (some g)
theorem TokPost.no {R : Option (Nat × List UInt8 × Nat × List UInt8)} (h : R = none) {w w' : World} {g j : Nat} {s : ByteArray} {a : Int} {b : ByteArray} {c d : Int} (hG : w.grownBy w' (some g)) :
    TokPost R w g s j (.returned (.tuple #[.agg #[.int .i64 a, .string b, .int .i64 c, .int .i64 d], .bool false])) w' := by
  subst h; exact ⟨⟨a, b, c, d, rfl⟩, hG⟩
theorem TokPost.yes {R : Option (Nat × List UInt8 × Nat × List UInt8)} {k : Nat} {t : List UInt8} {n : Nat} {s : ByteArray} {i : Nat} (h : R = some (k, t, n, rest s i)) (hi : i ≤ s.size) {w w' : World} {g j : Nat} {k' n' : Int} {b : ByteArray} (hk : k' = k) (hn : n' = n) (hb : b.data.toList = t)
    (hP : Rdr w' g s i ∧ w.grownBy w' (some g)) : TokPost R w g s j (.returned (.tuple #[.agg #[.int .i64 k', .string b, .int .i64 n', .int .i64 j], .bool true])) w' := by
  subst h hk hn hb; exact ⟨rfl, ⟨i, hi, rfl, hP.1⟩, hP.2⟩

theorem tok_let {c : UInt8} (q : List UInt8) (h : isLet c = true) : tokL (c :: q) = if ((c :: q).takeWhile isWrd).length ≤ 16 then some (1, ((c :: q).takeWhile isWrd).map low, 0, (c :: q).dropWhile isWrd) else none := by
  simp only [tokL, h, if_true]
theorem tok_dig {c : UInt8} (q : List UInt8) (h0 : isLet c = false) (h : isDig c = true) : tokL (c :: q) = if numOf ((c :: q).takeWhile isDig) ≤ 9223372036854775807 then some (2, [], numOf ((c :: q).takeWhile isDig), (c :: q).dropWhile isDig) else none := by
  simp only [tokL, h0, h, if_true, Bool.false_eq_true, if_false]
theorem tok_quo {c : UInt8} (q : List UInt8) (h0 : isLet c = false) (h1 : isDig c = false) (h : isQuo c = true) : tokL (c :: q) = match qL q with | some (t, r') => if t.length ≤ 64 then some (3, t, 0, r') else none | none => none := by
  simp only [tokL, h0, h1, h, if_true, Bool.false_eq_true, if_false]
  cases qL q <;> rfl
theorem tok_sgn {c : UInt8} (q : List UInt8) (h0 : isLet c = false) (h1 : isDig c = false) (h2 : isQuo c = false) (h : isSgn c = true) : tokL (c :: q) = some (4, (c :: q).take (sgnLen (c :: q)), 0, (c :: q).drop (sgnLen (c :: q))) := by
  simp only [tokL, h0, h1, h2, h, if_true, Bool.false_eq_true, if_false]
theorem tok_non {c : UInt8} (q : List UInt8) (h0 : isLet c = false) (h1 : isDig c = false) (h2 : isQuo c = false) (h : isSgn c = false) : tokL (c :: q) = none := by
  simp only [tokL, h0, h1, h2, h, Bool.false_eq_true, if_false]
theorem extract_rest (s : ByteArray) (j n : Nat) : (s.extract j (j + n)).data.toList = (rest s j).take n := by
  rw [Lib.extract_data, Nat.add_sub_cancel_left]; rfl

set_option maxHeartbeats 4000000 in
theorem token_word_yes (g : Nat) (s : ByteArray) (j : Nat) (w : World) (h : Rdr w g s j) (hj : j < s.size) (hs : s.size ≤ 140737488355328) (hr : Ran w) (h2 : 2 < g) (hc0 : isLet s[j] = true) (hl : runN isWrd s j ≤ 16) :
    Calls Tryz.prog 52 #[.pointer (some ⟨g, 0, none⟩)] w (TokPost (tokL (rest s j)) w g s j) := by
  have hmax : s.size ≤ maxLen := by unfold maxLen; omega
  have HM := Lib.hid hmax
  have HS := Lib.hid hs
  have HRan := Lib.hid hr
  have H2 := Lib.hid h2
  have HT0 := Lib.hid (TS.start h)
  have hrc := rest_cons s j hj
  have hL0 : ∀ w, Calls Tryz.prog 91 #[.int .u8 (s[j].toNat : Int)] w fun e w' => e = .returned (.bool true) ∧ w = w' := fun w => by have := isLetter_any s[j] w; rw [hc0] at this; exact this
  have hW := fun w1 h1 => word_yes g s j w1 h1 (by omega) hmax hl
  have HR : Hid (tokL (rest s j) = some (1, ((rest s j).takeWhile isWrd).map low, 0, rest s (j + runN isWrd s j))) := by
    show _ = _
    have hl' : ((rest s j).takeWhile isWrd).length ≤ 16 := hl
    rw [rest_run]
    rw [hrc] at hl' ⊢
    rw [tok_let _ hc0, if_pos hl']
  have HX := Lib.hid (extract_runN isWrd s j)
  have HLE := Lib.hid (runN_le isWrd s j (by omega))
  clear hl
  have HJ := Lib.hid hj
  generalize tokL (rest s j) = R at HR
  obtain ⟨c0, c1, f1⟩ := h.cells
  have hlt := h.lt
  have hs' : s.size ≤ 9223372036854775807 := by omega
  clear h hmax hs hrc hr h2 hc0
  go_enter Tryz.func52, Tryz.ntmps52
  go_wp2_with fail
  clear c0 c1 f1
  generalize ((w.alloc (.cells #[.int .i64 0, .string ⟨#[]⟩, .int .i64 0, .int .i64 0] 47)).alloc (.cells #[.int .i64 0, .string ⟨#[]⟩, .int .i64 0, .int .i64 j] 47)) = w1 at HT0 ⊢
  obtain ⟨c0, c1, f1⟩ := HT0.out.rdr.cells
  go_quiet (fail)
  have HT1 := Lib.hid (HT0.out.drewN nq)
  generalize w1.drewN nq = w2 at HT1 ⊢
  clear c0 c1 f1 HT0 w1
  obtain ⟨d0, d1, d2, d3, e0, e1, e2, e3⟩ := HT1.out.tok.cells
  go_wp2_with fail
  go_at_call 91
  refine (hL0 _).mono ?_
  rintro e w3 ⟨rfl, rfl⟩
  clear hL0
  go_wp2_with fail
  have HT2 := Lib.hid (HT1.out.set0 1)
  generalize w2.setCell ⟨w.heap.size + 1, 0, none⟩ (.int .i64 1) = w3 at HT2 ⊢
  clear d0 d1 d2 d3 e0 e1 e2 e3 HT1 w2
  go_at_call 92
  refine (hW _ HT2.out.rdr).mono ?_
  rintro e w4 ⟨rfl, hR, hG⟩
  have HT3 := Lib.hid (HT2.out.read hG hR)
  clear hR hG HT2
  obtain ⟨d0, d1, d2, d3, e0, e1, e2, e3⟩ := HT3.out.tok.cells
  obtain ⟨r0, r1, r2, r3, q0, q1, q2, q3⟩ := HT3.out.res.cells
  go_wp2_with fail
  exact bodyPost_ret (v := .tuple #[.agg #[.int .i64 1, .string (lowS (s.extract j (j + runN isWrd s j))), .int .i64 0, .int .i64 j], .bool true]) (by simp [results, Tryz.results52, go_sem, d0, d1, d2, d3, r0, r1, r2, r3]) rfl (TokPost.yes HR.out HLE.out rfl rfl (by rw [lowS_list, HX.out]; rfl) ((HT3.out.set1 _).fin _ _ _ _))

set_option maxHeartbeats 4000000 in
theorem token_word_no (g : Nat) (s : ByteArray) (j : Nat) (w : World) (h : Rdr w g s j) (hj : j < s.size) (hs : s.size ≤ 140737488355328) (hr : Ran w) (h2 : 2 < g) (hc0 : isLet s[j] = true) (hl : 16 < runN isWrd s j) :
    Calls Tryz.prog 52 #[.pointer (some ⟨g, 0, none⟩)] w (TokPost (tokL (rest s j)) w g s j) := by
  have hmax : s.size ≤ maxLen := by unfold maxLen; omega
  have HM := Lib.hid hmax
  have HS := Lib.hid hs
  have HRan := Lib.hid hr
  have H2 := Lib.hid h2
  have HT0 := Lib.hid (TS.start h)
  have hrc := rest_cons s j hj
  have hL0 : ∀ w, Calls Tryz.prog 91 #[.int .u8 (s[j].toNat : Int)] w fun e w' => e = .returned (.bool true) ∧ w = w' := fun w => by have := isLetter_any s[j] w; rw [hc0] at this; exact this
  have hW := fun w1 h1 => word_no g s j w1 h1 (by omega) hmax hl
  have HR : Hid (tokL (rest s j) = none) := by
    show _ = _
    have hl' : ¬ ((rest s j).takeWhile isWrd).length ≤ 16 := by have : ((rest s j).takeWhile isWrd).length = runN isWrd s j := rfl; omega
    rw [hrc] at hl' ⊢
    rw [tok_let _ hc0, if_neg hl']
  clear hl
  have HJ := Lib.hid hj
  generalize tokL (rest s j) = R at HR
  obtain ⟨c0, c1, f1⟩ := h.cells
  have hlt := h.lt
  have hs' : s.size ≤ 9223372036854775807 := by omega
  clear h hmax hs hrc hr h2 hc0
  go_enter Tryz.func52, Tryz.ntmps52
  go_wp2_with fail
  clear c0 c1 f1
  generalize ((w.alloc (.cells #[.int .i64 0, .string ⟨#[]⟩, .int .i64 0, .int .i64 0] 47)).alloc (.cells #[.int .i64 0, .string ⟨#[]⟩, .int .i64 0, .int .i64 j] 47)) = w1 at HT0 ⊢
  obtain ⟨c0, c1, f1⟩ := HT0.out.rdr.cells
  go_quiet (fail)
  have HT1 := Lib.hid (HT0.out.drewN nq)
  generalize w1.drewN nq = w2 at HT1 ⊢
  clear c0 c1 f1 HT0 w1
  obtain ⟨d0, d1, d2, d3, e0, e1, e2, e3⟩ := HT1.out.tok.cells
  go_wp2_with fail
  go_at_call 91
  refine (hL0 _).mono ?_
  rintro e w3 ⟨rfl, rfl⟩
  clear hL0
  go_wp2_with fail
  have HT2 := Lib.hid (HT1.out.set0 1)
  generalize w2.setCell ⟨w.heap.size + 1, 0, none⟩ (.int .i64 1) = w3 at HT2 ⊢
  clear d0 d1 d2 d3 e0 e1 e2 e3 HT1 w2
  go_at_call 92
  refine (hW _ HT2.out.rdr).mono ?_
  rintro e w4 ⟨rfl, hG⟩
  have HT3 := Lib.hid (HT2.out.half hG)
  clear hG HT2
  obtain ⟨d0, d1, d2, d3, e0, e1, e2, e3⟩ := HT3.out.tok.cells
  obtain ⟨r0, r1, r2, r3, q0, q1, q2, q3⟩ := HT3.out.res.cells
  go_wp2_with fail
  exact bodyPost_ret (v := .tuple #[.agg #[.int .i64 1, .string ⟨#[]⟩, .int .i64 0, .int .i64 j], .bool false]) (by simp [results, Tryz.results52, go_sem, d0, d1, d2, d3, r0, r1, r2, r3]) rfl (TokPost.no HR.out ((HT3.out.set1 _).fin _ _ _ _))

set_option maxHeartbeats 4000000 in
theorem token_num_yes (g : Nat) (s : ByteArray) (j : Nat) (w : World) (h : Rdr w g s j) (hj : j < s.size) (hs : s.size ≤ 140737488355328) (hr : Ran w) (h2 : 2 < g) (hc0 : isLet s[j] = false) (hc1 : isDig s[j] = true) (hl : numOf ((rest s j).takeWhile isDig) ≤ 9223372036854775807) :
    Calls Tryz.prog 52 #[.pointer (some ⟨g, 0, none⟩)] w (TokPost (tokL (rest s j)) w g s j) := by
  have hmax : s.size ≤ maxLen := by unfold maxLen; omega
  have HM := Lib.hid hmax
  have HS := Lib.hid hs
  have HRan := Lib.hid hr
  have H2 := Lib.hid h2
  have HT0 := Lib.hid (TS.start h)
  have hrc := rest_cons s j hj
  have hL0 : ∀ w, Calls Tryz.prog 91 #[.int .u8 (s[j].toNat : Int)] w fun e w' => e = .returned (.bool false) ∧ w = w' := fun w => by have := isLetter_any s[j] w; rw [hc0] at this; exact this
  have hL1 : ∀ w, Calls Tryz.prog 93 #[.int .u8 (s[j].toNat : Int)] w fun e w' => e = .returned (.bool true) ∧ w = w' := fun w => by have := isDigit_any s[j] w; rw [hc1] at this; exact this
  have hpos : 0 < runN isDig s j := by rw [runN_yes hj hc1]; omega
  have hd : decide (numOf ((rest s j).takeWhile isDig) ≤ 9223372036854775807) = true := by simpa using hl
  have hW := fun w1 h1 hr1 => ((number_any g s j w1 h1 (by omega) hs hr1 h2 hpos).mono fun e w' h => (show e = .returned (.tuple #[.int .i64 (numOf ((rest s j).takeWhile isDig) : Int), .bool true]) ∧ Rdr w' g s (j + runN isDig s j) ∧ w1.grownBy w' (some g) from by obtain ⟨⟨n, he, hn⟩, hrest⟩ := h; rw [hd, hn hl] at he; exact ⟨he, hrest⟩))
  have HR : Hid (tokL (rest s j) = some (2, [], numOf ((rest s j).takeWhile isDig), rest s (j + runN isDig s j))) := by
    show _ = _
    rw [rest_run]
    have hl' := hl
    rw [hrc] at hl' ⊢
    rw [tok_dig _ hc0 hc1, if_pos hl']
  have HLE := Lib.hid (runN_le isDig s j (by omega))
  generalize numOf ((rest s j).takeWhile isDig) = n at hW HR
  clear hl hd hpos
  have HJ := Lib.hid hj
  generalize tokL (rest s j) = R at HR
  obtain ⟨c0, c1, f1⟩ := h.cells
  have hlt := h.lt
  have hs' : s.size ≤ 9223372036854775807 := by omega
  clear h hmax hs hrc hr h2 hc0 hc1
  go_enter Tryz.func52, Tryz.ntmps52
  go_wp2_with fail
  clear c0 c1 f1
  generalize ((w.alloc (.cells #[.int .i64 0, .string ⟨#[]⟩, .int .i64 0, .int .i64 0] 47)).alloc (.cells #[.int .i64 0, .string ⟨#[]⟩, .int .i64 0, .int .i64 j] 47)) = w1 at HT0 ⊢
  obtain ⟨c0, c1, f1⟩ := HT0.out.rdr.cells
  go_quiet (fail)
  have HT1 := Lib.hid (HT0.out.drewN nq)
  generalize w1.drewN nq = w2 at HT1 ⊢
  clear c0 c1 f1 HT0 w1
  obtain ⟨d0, d1, d2, d3, e0, e1, e2, e3⟩ := HT1.out.tok.cells
  go_wp2_with fail
  go_at_call 91
  refine (hL0 _).mono ?_
  rintro e w3 ⟨rfl, rfl⟩
  clear hL0
  go_wp2_with fail
  go_at_call 93
  refine (hL1 _).mono ?_
  rintro e w3 ⟨rfl, rfl⟩
  clear hL1
  go_wp2_with fail
  have HT2 := Lib.hid (HT1.out.set0 2)
  generalize w2.setCell ⟨w.heap.size + 1, 0, none⟩ (.int .i64 2) = w3 at HT2 ⊢
  clear d0 d1 d2 d3 e0 e1 e2 e3 HT1 w2
  go_at_call 94
  refine (hW _ HT2.out.rdr (HRan.out.grown HT2.out.grw H2.out)).mono ?_
  rintro e w4 ⟨rfl, hR, hG⟩
  have HT3 := Lib.hid (HT2.out.read hG hR)
  clear hR hG HT2
  obtain ⟨d0, d1, d2, d3, e0, e1, e2, e3⟩ := HT3.out.tok.cells
  obtain ⟨r0, r1, r2, r3, q0, q1, q2, q3⟩ := HT3.out.res.cells
  go_wp2_with fail
  exact bodyPost_ret (v := .tuple #[.agg #[.int .i64 2, .string ⟨#[]⟩, .int .i64 n, .int .i64 j], .bool true]) (by simp [results, Tryz.results52, go_sem, d0, d1, d2, d3, r0, r1, r2, r3]) rfl (TokPost.yes HR.out HLE.out rfl rfl rfl ((HT3.out.set2 _).fin _ _ _ _))

set_option maxHeartbeats 4000000 in
theorem token_num_no (g : Nat) (s : ByteArray) (j : Nat) (w : World) (h : Rdr w g s j) (hj : j < s.size) (hs : s.size ≤ 140737488355328) (hr : Ran w) (h2 : 2 < g) (hc0 : isLet s[j] = false) (hc1 : isDig s[j] = true) (hl : ¬ numOf ((rest s j).takeWhile isDig) ≤ 9223372036854775807) :
    Calls Tryz.prog 52 #[.pointer (some ⟨g, 0, none⟩)] w (TokPost (tokL (rest s j)) w g s j) := by
  have hmax : s.size ≤ maxLen := by unfold maxLen; omega
  have HM := Lib.hid hmax
  have HS := Lib.hid hs
  have HRan := Lib.hid hr
  have H2 := Lib.hid h2
  have HT0 := Lib.hid (TS.start h)
  have hrc := rest_cons s j hj
  have hL0 : ∀ w, Calls Tryz.prog 91 #[.int .u8 (s[j].toNat : Int)] w fun e w' => e = .returned (.bool false) ∧ w = w' := fun w => by have := isLetter_any s[j] w; rw [hc0] at this; exact this
  have hL1 : ∀ w, Calls Tryz.prog 93 #[.int .u8 (s[j].toNat : Int)] w fun e w' => e = .returned (.bool true) ∧ w = w' := fun w => by have := isDigit_any s[j] w; rw [hc1] at this; exact this
  have hpos : 0 < runN isDig s j := by rw [runN_yes hj hc1]; omega
  have hd : decide (numOf ((rest s j).takeWhile isDig) ≤ 9223372036854775807) = false := by simpa using hl
  have hW := fun w1 h1 hr1 => ((number_any g s j w1 h1 (by omega) hs hr1 h2 hpos).mono fun e w' h => (show (∃ n : Int, e = .returned (.tuple #[.int .i64 n, .bool false])) ∧ Rdr w' g s (j + runN isDig s j) ∧ w1.grownBy w' (some g) from by obtain ⟨⟨n, he, hn⟩, hrest⟩ := h; rw [hd] at he; exact ⟨⟨n, he⟩, hrest⟩))
  have HR : Hid (tokL (rest s j) = none) := by
    show _ = _
    have hl' := hl
    rw [hrc] at hl' ⊢
    rw [tok_dig _ hc0 hc1, if_neg hl']
  clear hl hd hpos
  have HJ := Lib.hid hj
  generalize tokL (rest s j) = R at HR
  obtain ⟨c0, c1, f1⟩ := h.cells
  have hlt := h.lt
  have hs' : s.size ≤ 9223372036854775807 := by omega
  clear h hmax hs hrc hr h2 hc0 hc1
  go_enter Tryz.func52, Tryz.ntmps52
  go_wp2_with fail
  clear c0 c1 f1
  generalize ((w.alloc (.cells #[.int .i64 0, .string ⟨#[]⟩, .int .i64 0, .int .i64 0] 47)).alloc (.cells #[.int .i64 0, .string ⟨#[]⟩, .int .i64 0, .int .i64 j] 47)) = w1 at HT0 ⊢
  obtain ⟨c0, c1, f1⟩ := HT0.out.rdr.cells
  go_quiet (fail)
  have HT1 := Lib.hid (HT0.out.drewN nq)
  generalize w1.drewN nq = w2 at HT1 ⊢
  clear c0 c1 f1 HT0 w1
  obtain ⟨d0, d1, d2, d3, e0, e1, e2, e3⟩ := HT1.out.tok.cells
  go_wp2_with fail
  go_at_call 91
  refine (hL0 _).mono ?_
  rintro e w3 ⟨rfl, rfl⟩
  clear hL0
  go_wp2_with fail
  go_at_call 93
  refine (hL1 _).mono ?_
  rintro e w3 ⟨rfl, rfl⟩
  clear hL1
  go_wp2_with fail
  have HT2 := Lib.hid (HT1.out.set0 2)
  generalize w2.setCell ⟨w.heap.size + 1, 0, none⟩ (.int .i64 2) = w3 at HT2 ⊢
  clear d0 d1 d2 d3 e0 e1 e2 e3 HT1 w2
  go_at_call 94
  refine (hW _ HT2.out.rdr (HRan.out.grown HT2.out.grw H2.out)).mono ?_
  rintro e w4 ⟨⟨n, rfl⟩, hR, hG⟩
  have HT3 := Lib.hid (HT2.out.read hG hR)
  clear hR hG HT2
  obtain ⟨d0, d1, d2, d3, e0, e1, e2, e3⟩ := HT3.out.tok.cells
  obtain ⟨r0, r1, r2, r3, q0, q1, q2, q3⟩ := HT3.out.res.cells
  go_wp2_with fail
  exact bodyPost_ret (v := .tuple #[.agg #[.int .i64 2, .string ⟨#[]⟩, .int .i64 n, .int .i64 j], .bool false]) (by simp [results, Tryz.results52, go_sem, d0, d1, d2, d3, r0, r1, r2, r3]) rfl (TokPost.no HR.out ((HT3.out.set2 _).fin _ _ _ _).2)

set_option maxHeartbeats 4000000 in
theorem token_quo_none (g : Nat) (s : ByteArray) (j : Nat) (w : World) (h : Rdr w g s j) (hj : j < s.size) (hs : s.size ≤ 140737488355328) (hr : Ran w) (h2 : 2 < g) (hc0 : isLet s[j] = false) (hc1 : isDig s[j] = false) (hc2 : isQuo s[j] = true) (hq : qL (rest s (j + 1)) = none) :
    Calls Tryz.prog 52 #[.pointer (some ⟨g, 0, none⟩)] w (TokPost (tokL (rest s j)) w g s j) := by
  have hmax : s.size ≤ maxLen := by unfold maxLen; omega
  have HM := Lib.hid hmax
  have HS := Lib.hid hs
  have HRan := Lib.hid hr
  have H2 := Lib.hid h2
  have HT0 := Lib.hid (TS.start h)
  have hrc := rest_cons s j hj
  have hL0 : ∀ w, Calls Tryz.prog 91 #[.int .u8 (s[j].toNat : Int)] w fun e w' => e = .returned (.bool false) ∧ w = w' := fun w => by have := isLetter_any s[j] w; rw [hc0] at this; exact this
  have hL1 : ∀ w, Calls Tryz.prog 93 #[.int .u8 (s[j].toNat : Int)] w fun e w' => e = .returned (.bool false) ∧ w = w' := fun w => by have := isDigit_any s[j] w; rw [hc1] at this; exact this
  have hL2 : ∀ w, Calls Tryz.prog 95 #[.int .u8 (s[j].toNat : Int)] w fun e w' => e = .returned (.bool true) ∧ w = w' := fun w => by have := isQuote_any s[j] w; rw [hc2] at this; exact this
  have hW := fun w1 h1 => (show Calls Tryz.prog 96 #[.pointer (some ⟨g, 0, none⟩)] w1 fun e w' => e = .returned (.tuple #[.string ⟨#[]⟩, .bool false]) ∧ w1.grownBy w' (some g) from by have := quoted_any g s j w1 h1 hj hc2 hs; rw [hq] at this; exact this)
  have HR : Hid (tokL (rest s j) = none) := by
    show _ = _
    rw [hrc, tok_quo _ hc0 hc1 hc2, hq]
  clear hq
  have HJ := Lib.hid hj
  generalize tokL (rest s j) = R at HR
  obtain ⟨c0, c1, f1⟩ := h.cells
  have hlt := h.lt
  have hs' : s.size ≤ 9223372036854775807 := by omega
  clear h hmax hs hrc hr h2 hc0 hc1 hc2
  go_enter Tryz.func52, Tryz.ntmps52
  go_wp2_with fail
  clear c0 c1 f1
  generalize ((w.alloc (.cells #[.int .i64 0, .string ⟨#[]⟩, .int .i64 0, .int .i64 0] 47)).alloc (.cells #[.int .i64 0, .string ⟨#[]⟩, .int .i64 0, .int .i64 j] 47)) = w1 at HT0 ⊢
  obtain ⟨c0, c1, f1⟩ := HT0.out.rdr.cells
  go_quiet (fail)
  have HT1 := Lib.hid (HT0.out.drewN nq)
  generalize w1.drewN nq = w2 at HT1 ⊢
  clear c0 c1 f1 HT0 w1
  obtain ⟨d0, d1, d2, d3, e0, e1, e2, e3⟩ := HT1.out.tok.cells
  go_wp2_with fail
  go_at_call 91
  refine (hL0 _).mono ?_
  rintro e w3 ⟨rfl, rfl⟩
  clear hL0
  go_wp2_with fail
  go_at_call 93
  refine (hL1 _).mono ?_
  rintro e w3 ⟨rfl, rfl⟩
  clear hL1
  go_wp2_with fail
  go_at_call 95
  refine (hL2 _).mono ?_
  rintro e w3 ⟨rfl, rfl⟩
  clear hL2
  go_wp2_with fail
  have HT2 := Lib.hid (HT1.out.set0 3)
  generalize w2.setCell ⟨w.heap.size + 1, 0, none⟩ (.int .i64 3) = w3 at HT2 ⊢
  clear d0 d1 d2 d3 e0 e1 e2 e3 HT1 w2
  go_at_call 96
  refine (hW _ HT2.out.rdr).mono ?_
  rintro e w4 ⟨rfl, hG⟩
  have HT3 := Lib.hid (HT2.out.half hG)
  clear hG HT2
  obtain ⟨d0, d1, d2, d3, e0, e1, e2, e3⟩ := HT3.out.tok.cells
  obtain ⟨r0, r1, r2, r3, q0, q1, q2, q3⟩ := HT3.out.res.cells
  go_wp2_with fail
  exact bodyPost_ret (v := .tuple #[.agg #[.int .i64 3, .string ⟨#[]⟩, .int .i64 0, .int .i64 j], .bool false]) (by simp [results, Tryz.results52, go_sem, d0, d1, d2, d3, r0, r1, r2, r3]) rfl (TokPost.no HR.out ((HT3.out.set1 _).fin _ _ _ _))

set_option maxHeartbeats 4000000 in
theorem token_quo_yes (g : Nat) (s : ByteArray) (j : Nat) (w : World) (h : Rdr w g s j) (hj : j < s.size) (hs : s.size ≤ 140737488355328) (hr : Ran w) (h2 : 2 < g) (hc0 : isLet s[j] = false) (hc1 : isDig s[j] = false) (hc2 : isQuo s[j] = true) (t r : List UInt8) (hq : qL (rest s (j + 1)) = some (t, r)) (hl : t.length ≤ 64) :
    Calls Tryz.prog 52 #[.pointer (some ⟨g, 0, none⟩)] w (TokPost (tokL (rest s j)) w g s j) := by
  have hmax : s.size ≤ maxLen := by unfold maxLen; omega
  have HM := Lib.hid hmax
  have HS := Lib.hid hs
  have HRan := Lib.hid hr
  have H2 := Lib.hid h2
  have HT0 := Lib.hid (TS.start h)
  have hrc := rest_cons s j hj
  have hL0 : ∀ w, Calls Tryz.prog 91 #[.int .u8 (s[j].toNat : Int)] w fun e w' => e = .returned (.bool false) ∧ w = w' := fun w => by have := isLetter_any s[j] w; rw [hc0] at this; exact this
  have hL1 : ∀ w, Calls Tryz.prog 93 #[.int .u8 (s[j].toNat : Int)] w fun e w' => e = .returned (.bool false) ∧ w = w' := fun w => by have := isDigit_any s[j] w; rw [hc1] at this; exact this
  have hL2 : ∀ w, Calls Tryz.prog 95 #[.int .u8 (s[j].toNat : Int)] w fun e w' => e = .returned (.bool true) ∧ w = w' := fun w => by have := isQuote_any s[j] w; rw [hc2] at this; exact this
  have hd : decide (t.length ≤ 64) = true := by simpa using hl
  have hW := fun w1 h1 => (show Calls Tryz.prog 96 #[.pointer (some ⟨g, 0, none⟩)] w1 fun e w' => e = .returned (.tuple #[.string ⟨t.toArray⟩, .bool true]) ∧ (∃ i, i ≤ s.size ∧ rest s i = r ∧ Rdr w' g s i) ∧ w1.grownBy w' (some g) from by have := quoted_any g s j w1 h1 hj hc2 hs; rw [hq] at this; rw [← hd]; exact this)
  have HR : Hid (tokL (rest s j) = some (3, t, 0, r)) := by
    show _ = _
    rw [hrc, tok_quo _ hc0 hc1 hc2, hq]
    exact if_pos hl
  clear hq hl hd
  have HJ := Lib.hid hj
  generalize tokL (rest s j) = R at HR
  obtain ⟨c0, c1, f1⟩ := h.cells
  have hlt := h.lt
  have hs' : s.size ≤ 9223372036854775807 := by omega
  clear h hmax hs hrc hr h2 hc0 hc1 hc2
  go_enter Tryz.func52, Tryz.ntmps52
  go_wp2_with fail
  clear c0 c1 f1
  generalize ((w.alloc (.cells #[.int .i64 0, .string ⟨#[]⟩, .int .i64 0, .int .i64 0] 47)).alloc (.cells #[.int .i64 0, .string ⟨#[]⟩, .int .i64 0, .int .i64 j] 47)) = w1 at HT0 ⊢
  obtain ⟨c0, c1, f1⟩ := HT0.out.rdr.cells
  go_quiet (fail)
  have HT1 := Lib.hid (HT0.out.drewN nq)
  generalize w1.drewN nq = w2 at HT1 ⊢
  clear c0 c1 f1 HT0 w1
  obtain ⟨d0, d1, d2, d3, e0, e1, e2, e3⟩ := HT1.out.tok.cells
  go_wp2_with fail
  go_at_call 91
  refine (hL0 _).mono ?_
  rintro e w3 ⟨rfl, rfl⟩
  clear hL0
  go_wp2_with fail
  go_at_call 93
  refine (hL1 _).mono ?_
  rintro e w3 ⟨rfl, rfl⟩
  clear hL1
  go_wp2_with fail
  go_at_call 95
  refine (hL2 _).mono ?_
  rintro e w3 ⟨rfl, rfl⟩
  clear hL2
  go_wp2_with fail
  have HT2 := Lib.hid (HT1.out.set0 3)
  generalize w2.setCell ⟨w.heap.size + 1, 0, none⟩ (.int .i64 3) = w3 at HT2 ⊢
  clear d0 d1 d2 d3 e0 e1 e2 e3 HT1 w2
  go_at_call 96
  refine (hW _ HT2.out.rdr).mono ?_
  rintro e w4 ⟨rfl, ⟨i, hi, hir, hR⟩, hG⟩
  have HI := Lib.hid hi
  have HIR := Lib.hid hir
  clear hi hir
  have HT3 := Lib.hid (HT2.out.read hG hR)
  clear hR hG HT2
  obtain ⟨d0, d1, d2, d3, e0, e1, e2, e3⟩ := HT3.out.tok.cells
  obtain ⟨r0, r1, r2, r3, q0, q1, q2, q3⟩ := HT3.out.res.cells
  go_wp2_with fail
  exact bodyPost_ret (v := .tuple #[.agg #[.int .i64 3, .string ⟨t.toArray⟩, .int .i64 0, .int .i64 j], .bool true]) (by simp [results, Tryz.results52, go_sem, d0, d1, d2, d3, r0, r1, r2, r3]) rfl (TokPost.yes (by rw [HR.out, HIR.out]) HI.out rfl rfl rfl ((HT3.out.set1 _).fin _ _ _ _))

set_option maxHeartbeats 4000000 in
theorem token_quo_no (g : Nat) (s : ByteArray) (j : Nat) (w : World) (h : Rdr w g s j) (hj : j < s.size) (hs : s.size ≤ 140737488355328) (hr : Ran w) (h2 : 2 < g) (hc0 : isLet s[j] = false) (hc1 : isDig s[j] = false) (hc2 : isQuo s[j] = true) (t r : List UInt8) (hq : qL (rest s (j + 1)) = some (t, r)) (hl : ¬ t.length ≤ 64) :
    Calls Tryz.prog 52 #[.pointer (some ⟨g, 0, none⟩)] w (TokPost (tokL (rest s j)) w g s j) := by
  have hmax : s.size ≤ maxLen := by unfold maxLen; omega
  have HM := Lib.hid hmax
  have HS := Lib.hid hs
  have HRan := Lib.hid hr
  have H2 := Lib.hid h2
  have HT0 := Lib.hid (TS.start h)
  have hrc := rest_cons s j hj
  have hL0 : ∀ w, Calls Tryz.prog 91 #[.int .u8 (s[j].toNat : Int)] w fun e w' => e = .returned (.bool false) ∧ w = w' := fun w => by have := isLetter_any s[j] w; rw [hc0] at this; exact this
  have hL1 : ∀ w, Calls Tryz.prog 93 #[.int .u8 (s[j].toNat : Int)] w fun e w' => e = .returned (.bool false) ∧ w = w' := fun w => by have := isDigit_any s[j] w; rw [hc1] at this; exact this
  have hL2 : ∀ w, Calls Tryz.prog 95 #[.int .u8 (s[j].toNat : Int)] w fun e w' => e = .returned (.bool true) ∧ w = w' := fun w => by have := isQuote_any s[j] w; rw [hc2] at this; exact this
  have hd : decide (t.length ≤ 64) = false := by simpa using hl
  have hW := fun w1 h1 => (show Calls Tryz.prog 96 #[.pointer (some ⟨g, 0, none⟩)] w1 fun e w' => e = .returned (.tuple #[.string ⟨t.toArray⟩, .bool false]) ∧ (∃ i, i ≤ s.size ∧ rest s i = r ∧ Rdr w' g s i) ∧ w1.grownBy w' (some g) from by have := quoted_any g s j w1 h1 hj hc2 hs; rw [hq] at this; rw [← hd]; exact this)
  have HR : Hid (tokL (rest s j) = none) := by
    show _ = _
    rw [hrc, tok_quo _ hc0 hc1 hc2, hq]
    exact if_neg hl
  clear hq hl hd
  have HJ := Lib.hid hj
  generalize tokL (rest s j) = R at HR
  obtain ⟨c0, c1, f1⟩ := h.cells
  have hlt := h.lt
  have hs' : s.size ≤ 9223372036854775807 := by omega
  clear h hmax hs hrc hr h2 hc0 hc1 hc2
  go_enter Tryz.func52, Tryz.ntmps52
  go_wp2_with fail
  clear c0 c1 f1
  generalize ((w.alloc (.cells #[.int .i64 0, .string ⟨#[]⟩, .int .i64 0, .int .i64 0] 47)).alloc (.cells #[.int .i64 0, .string ⟨#[]⟩, .int .i64 0, .int .i64 j] 47)) = w1 at HT0 ⊢
  obtain ⟨c0, c1, f1⟩ := HT0.out.rdr.cells
  go_quiet (fail)
  have HT1 := Lib.hid (HT0.out.drewN nq)
  generalize w1.drewN nq = w2 at HT1 ⊢
  clear c0 c1 f1 HT0 w1
  obtain ⟨d0, d1, d2, d3, e0, e1, e2, e3⟩ := HT1.out.tok.cells
  go_wp2_with fail
  go_at_call 91
  refine (hL0 _).mono ?_
  rintro e w3 ⟨rfl, rfl⟩
  clear hL0
  go_wp2_with fail
  go_at_call 93
  refine (hL1 _).mono ?_
  rintro e w3 ⟨rfl, rfl⟩
  clear hL1
  go_wp2_with fail
  go_at_call 95
  refine (hL2 _).mono ?_
  rintro e w3 ⟨rfl, rfl⟩
  clear hL2
  go_wp2_with fail
  have HT2 := Lib.hid (HT1.out.set0 3)
  generalize w2.setCell ⟨w.heap.size + 1, 0, none⟩ (.int .i64 3) = w3 at HT2 ⊢
  clear d0 d1 d2 d3 e0 e1 e2 e3 HT1 w2
  go_at_call 96
  refine (hW _ HT2.out.rdr).mono ?_
  rintro e w4 ⟨rfl, ⟨i, hi, hir, hR⟩, hG⟩
  have HI := Lib.hid hi
  have HIR := Lib.hid hir
  clear hi hir
  have HT3 := Lib.hid (HT2.out.read hG hR)
  clear hR hG HT2
  obtain ⟨d0, d1, d2, d3, e0, e1, e2, e3⟩ := HT3.out.tok.cells
  obtain ⟨r0, r1, r2, r3, q0, q1, q2, q3⟩ := HT3.out.res.cells
  go_wp2_with fail
  exact bodyPost_ret (v := .tuple #[.agg #[.int .i64 3, .string ⟨t.toArray⟩, .int .i64 0, .int .i64 j], .bool false]) (by simp [results, Tryz.results52, go_sem, d0, d1, d2, d3, r0, r1, r2, r3]) rfl (TokPost.no HR.out ((HT3.out.set1 _).fin _ _ _ _).2)

set_option maxHeartbeats 4000000 in
theorem token_sgn (g : Nat) (s : ByteArray) (j : Nat) (w : World) (h : Rdr w g s j) (hj : j < s.size) (hs : s.size ≤ 140737488355328) (hr : Ran w) (h2 : 2 < g) (hc0 : isLet s[j] = false) (hc1 : isDig s[j] = false) (hc2 : isQuo s[j] = false) (hc3 : isSgn s[j] = true) :
    Calls Tryz.prog 52 #[.pointer (some ⟨g, 0, none⟩)] w (TokPost (tokL (rest s j)) w g s j) := by
  have hmax : s.size ≤ maxLen := by unfold maxLen; omega
  have HM := Lib.hid hmax
  have HS := Lib.hid hs
  have HRan := Lib.hid hr
  have H2 := Lib.hid h2
  have HT0 := Lib.hid (TS.start h)
  have hrc := rest_cons s j hj
  have hL0 : ∀ w, Calls Tryz.prog 91 #[.int .u8 (s[j].toNat : Int)] w fun e w' => e = .returned (.bool false) ∧ w = w' := fun w => by have := isLetter_any s[j] w; rw [hc0] at this; exact this
  have hL1 : ∀ w, Calls Tryz.prog 93 #[.int .u8 (s[j].toNat : Int)] w fun e w' => e = .returned (.bool false) ∧ w = w' := fun w => by have := isDigit_any s[j] w; rw [hc1] at this; exact this
  have hL2 : ∀ w, Calls Tryz.prog 95 #[.int .u8 (s[j].toNat : Int)] w fun e w' => e = .returned (.bool false) ∧ w = w' := fun w => by have := isQuote_any s[j] w; rw [hc2] at this; exact this
  have hL3 : ∀ w, Calls Tryz.prog 97 #[.int .u8 (s[j].toNat : Int)] w fun e w' => e = .returned (.bool true) ∧ w = w' := fun w => by have := isSign_any s[j] w; rw [hc3] at this; exact this
  have hW := fun w1 h1 => sign_any g s j w1 h1 hj hs
  have HR : Hid (tokL (rest s j) = some (4, (rest s j).take (sgnLen (rest s j)), 0, rest s (j + sgnLen (rest s j)))) := by
    show _ = _
    have e : rest s (j + sgnLen (rest s j)) = (rest s j).drop (sgnLen (rest s j)) := by unfold rest; rw [List.drop_drop]
    rw [e, hrc, tok_sgn _ hc0 hc1 hc2 hc3]
  have HLE : Hid (j + sgnLen (rest s j) ≤ s.size) := by
    show _ ≤ _
    have h1 := rest_length s j
    have h3 := sgnLen_le s[j] (rest s (j + 1))
    rw [← hrc, h1] at h3
    omega
  have HX := Lib.hid (extract_rest s j (sgnLen (rest s j)))
  generalize s.extract j (j + sgnLen (rest s j)) = x at hW HX
  generalize sgnLen (rest s j) = l at hW HR HLE HX
  have HJ := Lib.hid hj
  generalize tokL (rest s j) = R at HR
  obtain ⟨c0, c1, f1⟩ := h.cells
  have hlt := h.lt
  have hs' : s.size ≤ 9223372036854775807 := by omega
  clear h hmax hs hrc hr h2 hc0 hc1 hc2 hc3
  go_enter Tryz.func52, Tryz.ntmps52
  go_wp2_with fail
  clear c0 c1 f1
  generalize ((w.alloc (.cells #[.int .i64 0, .string ⟨#[]⟩, .int .i64 0, .int .i64 0] 47)).alloc (.cells #[.int .i64 0, .string ⟨#[]⟩, .int .i64 0, .int .i64 j] 47)) = w1 at HT0 ⊢
  obtain ⟨c0, c1, f1⟩ := HT0.out.rdr.cells
  go_quiet (fail)
  have HT1 := Lib.hid (HT0.out.drewN nq)
  generalize w1.drewN nq = w2 at HT1 ⊢
  clear c0 c1 f1 HT0 w1
  obtain ⟨d0, d1, d2, d3, e0, e1, e2, e3⟩ := HT1.out.tok.cells
  go_wp2_with fail
  go_at_call 91
  refine (hL0 _).mono ?_
  rintro e w3 ⟨rfl, rfl⟩
  clear hL0
  go_wp2_with fail
  go_at_call 93
  refine (hL1 _).mono ?_
  rintro e w3 ⟨rfl, rfl⟩
  clear hL1
  go_wp2_with fail
  go_at_call 95
  refine (hL2 _).mono ?_
  rintro e w3 ⟨rfl, rfl⟩
  clear hL2
  go_wp2_with fail
  go_at_call 97
  refine (hL3 _).mono ?_
  rintro e w3 ⟨rfl, rfl⟩
  clear hL3
  go_wp2_with fail
  have HT2 := Lib.hid (HT1.out.set0 4)
  generalize w2.setCell ⟨w.heap.size + 1, 0, none⟩ (.int .i64 4) = w3 at HT2 ⊢
  clear d0 d1 d2 d3 e0 e1 e2 e3 HT1 w2
  go_at_call 98
  refine (hW _ HT2.out.rdr).mono ?_
  rintro e w4 ⟨rfl, hR, hG⟩
  have HT3 := Lib.hid (HT2.out.read hG hR)
  clear hR hG HT2
  obtain ⟨d0, d1, d2, d3, e0, e1, e2, e3⟩ := HT3.out.tok.cells
  obtain ⟨r0, r1, r2, r3, q0, q1, q2, q3⟩ := HT3.out.res.cells
  go_wp2_with fail
  exact bodyPost_ret (v := .tuple #[.agg #[.int .i64 4, .string x, .int .i64 0, .int .i64 j], .bool true]) (by simp [results, Tryz.results52, go_sem, d0, d1, d2, d3, r0, r1, r2, r3]) rfl (TokPost.yes HR.out HLE.out rfl rfl HX.out ((HT3.out.set1 _).fin _ _ _ _))

set_option maxHeartbeats 4000000 in
theorem token_non (g : Nat) (s : ByteArray) (j : Nat) (w : World) (h : Rdr w g s j) (hj : j < s.size) (hs : s.size ≤ 140737488355328) (hr : Ran w) (h2 : 2 < g) (hc0 : isLet s[j] = false) (hc1 : isDig s[j] = false) (hc2 : isQuo s[j] = false) (hc3 : isSgn s[j] = false) :
    Calls Tryz.prog 52 #[.pointer (some ⟨g, 0, none⟩)] w (TokPost (tokL (rest s j)) w g s j) := by
  have hmax : s.size ≤ maxLen := by unfold maxLen; omega
  have HM := Lib.hid hmax
  have HS := Lib.hid hs
  have HRan := Lib.hid hr
  have H2 := Lib.hid h2
  have HT0 := Lib.hid (TS.start h)
  have hrc := rest_cons s j hj
  have hL0 : ∀ w, Calls Tryz.prog 91 #[.int .u8 (s[j].toNat : Int)] w fun e w' => e = .returned (.bool false) ∧ w = w' := fun w => by have := isLetter_any s[j] w; rw [hc0] at this; exact this
  have hL1 : ∀ w, Calls Tryz.prog 93 #[.int .u8 (s[j].toNat : Int)] w fun e w' => e = .returned (.bool false) ∧ w = w' := fun w => by have := isDigit_any s[j] w; rw [hc1] at this; exact this
  have hL2 : ∀ w, Calls Tryz.prog 95 #[.int .u8 (s[j].toNat : Int)] w fun e w' => e = .returned (.bool false) ∧ w = w' := fun w => by have := isQuote_any s[j] w; rw [hc2] at this; exact this
  have hL3 : ∀ w, Calls Tryz.prog 97 #[.int .u8 (s[j].toNat : Int)] w fun e w' => e = .returned (.bool false) ∧ w = w' := fun w => by have := isSign_any s[j] w; rw [hc3] at this; exact this
  have HR : Hid (tokL (rest s j) = none) := by
    show _ = _
    rw [hrc, tok_non _ hc0 hc1 hc2 hc3]
  have HJ := Lib.hid hj
  generalize tokL (rest s j) = R at HR
  obtain ⟨c0, c1, f1⟩ := h.cells
  have hlt := h.lt
  have hs' : s.size ≤ 9223372036854775807 := by omega
  clear h hmax hs hrc hr h2 hc0 hc1 hc2 hc3
  go_enter Tryz.func52, Tryz.ntmps52
  go_wp2_with fail
  clear c0 c1 f1
  generalize ((w.alloc (.cells #[.int .i64 0, .string ⟨#[]⟩, .int .i64 0, .int .i64 0] 47)).alloc (.cells #[.int .i64 0, .string ⟨#[]⟩, .int .i64 0, .int .i64 j] 47)) = w1 at HT0 ⊢
  obtain ⟨c0, c1, f1⟩ := HT0.out.rdr.cells
  go_quiet (fail)
  have HT1 := Lib.hid (HT0.out.drewN nq)
  generalize w1.drewN nq = w2 at HT1 ⊢
  clear c0 c1 f1 HT0 w1
  obtain ⟨d0, d1, d2, d3, e0, e1, e2, e3⟩ := HT1.out.tok.cells
  go_wp2_with fail
  go_at_call 91
  refine (hL0 _).mono ?_
  rintro e w3 ⟨rfl, rfl⟩
  clear hL0
  go_wp2_with fail
  go_at_call 93
  refine (hL1 _).mono ?_
  rintro e w3 ⟨rfl, rfl⟩
  clear hL1
  go_wp2_with fail
  go_at_call 95
  refine (hL2 _).mono ?_
  rintro e w3 ⟨rfl, rfl⟩
  clear hL2
  go_wp2_with fail
  go_at_call 97
  refine (hL3 _).mono ?_
  rintro e w3 ⟨rfl, rfl⟩
  clear hL3
  obtain ⟨r0, r1, r2, r3, q0, q1, q2, q3⟩ := HT1.out.res.cells
  go_wp2_with fail
  exact bodyPost_ret (v := .tuple #[.agg #[.int .i64 0, .string ⟨#[]⟩, .int .i64 0, .int .i64 j], .bool false]) (by simp [results, Tryz.results52, go_sem, d0, d1, d2, d3, r0, r1, r2, r3]) rfl (TokPost.no HR.out (HT1.out.fin _ _ _ _).2)

theorem token_any (g : Nat) (s : ByteArray) (j : Nat) (w : World) (h : Rdr w g s j) (hj : j < s.size) (hs : s.size ≤ 140737488355328) (hr : Ran w) (h2 : 2 < g) :
    Calls Tryz.prog 52 #[.pointer (some ⟨g, 0, none⟩)] w (TokPost (tokL (rest s j)) w g s j) := by
  cases hc0 : isLet s[j] with
  | true =>
    by_cases hl : runN isWrd s j ≤ 16
    · exact token_word_yes g s j w h hj hs hr h2 hc0 hl
    · exact token_word_no g s j w h hj hs hr h2 hc0 (by omega)
  | false =>
    cases hc1 : isDig s[j] with
    | true =>
      by_cases hl : numOf ((rest s j).takeWhile isDig) ≤ 9223372036854775807
      · exact token_num_yes g s j w h hj hs hr h2 hc0 hc1 hl
      · exact token_num_no g s j w h hj hs hr h2 hc0 hc1 hl
    | false =>
      cases hc2 : isQuo s[j] with
      | true =>
        cases hq : qL (rest s (j + 1)) with
        | none => exact token_quo_none g s j w h hj hs hr h2 hc0 hc1 hc2 hq
        | some x =>
          obtain ⟨t, r⟩ := x
          by_cases hl : t.length ≤ 64
          · exact token_quo_yes g s j w h hj hs hr h2 hc0 hc1 hc2 t r hq hl
          · exact token_quo_no g s j w h hj hs hr h2 hc0 hc1 hc2 t r hq hl
      | false =>
        cases hc3 : isSgn s[j] with
        | true => exact token_sgn g s j w h hj hs hr h2 hc0 hc1 hc2 hc3
        | false => exact token_non g s j w h hj hs hr h2 hc0 hc1 hc2 hc3
end Go.Proofs.YtlehmnbigocgdaaGreatDoor.Lx
