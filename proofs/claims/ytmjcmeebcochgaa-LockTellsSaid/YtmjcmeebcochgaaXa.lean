/- What the reference's small functions answer for any lock: the walks. Conditions: texts that every machine keeps. -/
import Derived.Test.YtmjcmeebcochgaaVi
namespace Go.Proofs.Ytmjcmeebcochgaa
open Go.RowKit
set_option linter.unusedSimpArgs false
set_option linter.unusedVariables false

theorem upto_eq (a b : Key) : decide (ordE a b ≤ 0) = (b.s.toList.isEmpty || (!a.s.toList.isEmpty && (Op.bytesLess a.s.toList b.s.toList || a.s.toList == b.s.toList))) := by
  rw [leq_dec, no_dec, no_dec, Bool.eq_iff_iff]
  simp only [decide_eq_true_eq, Bool.or_eq_true, Bool.and_eq_true, Bool.not_eq_true', decide_eq_false_iff_not]
  exact ordE_le a b
set_option maxHeartbeats 1000000 in
theorem upto_any (a b : Key) (w : World) :
    Calls Try.prog 33 #[.string a.s, .string b.s] w fun e w' => e = .returned (.bool (decide (ordE a b ≤ 0))) ∧ w = w' := by
  rw [upto_eq]
  cases hB : b.s.toList.isEmpty
  · cases hA : a.s.toList.isEmpty
    all_goals
      go_enter Try.func33, Try.ntmps33
      go_wp2
      all_goals go_ret
      all_goals exact ⟨ret_bool (by simp), rfl⟩
  · go_enter Try.func33, Try.ntmps33
    go_wp2
    all_goals go_ret
    all_goals exact ⟨ret_bool (by simp), rfl⟩
set_option maxHeartbeats 1000000 in
theorem rmay_any (x : Lk) (w : World) :
    Calls Try.prog 32 #[.agg #[.int .i64 x.t, .string x.lo.s, .string x.hi.s]] w fun e w' => e = .returned (.bool (mayL x)) ∧ Below w.heap.size w w' := by
  have hm : mayL x = (decide (1 ≤ x.t) && decide (x.t ≤ 1099511627776) && (x.hi.s.toList.isEmpty || Op.bytesLess x.lo.s.toList x.hi.s.toList)) := by rw [no_dec, less_dec]; rfl
  rw [hm]
  clear hm
  obtain ⟨t, lo, hi⟩ := x
  simp only
  by_cases h1 : 1 ≤ t
  · by_cases h2 : t ≤ 1099511627776
    · cases hH : hi.s.toList.isEmpty
      all_goals
        go_enter Try.func32, Try.ntmps32
        go_wp2
        all_goals go_ret
        all_goals exact ⟨ret_bool (by simp [h1, h2]), below1 _ _⟩
    · go_enter Try.func32, Try.ntmps32
      go_wp2
      all_goals go_ret
      all_goals exact ⟨ret_bool (by rw [decide_eq_false (show ¬ t ≤ 1099511627776 by omega)]; simp), below1 _ _⟩
  · go_enter Try.func32, Try.ntmps32
    go_wp2
    all_goals go_ret
    all_goals exact ⟨ret_bool (by rw [decide_eq_false (show ¬ 1 ≤ t by omega)]; simp), below1 _ _⟩
set_option maxHeartbeats 1000000 in
theorem reaches_any (x : Lk) (k : Key) (w : World) :
    Calls Try.prog 51 #[.agg #[.int .i64 x.t, .string x.lo.s, .string x.hi.s], .string k.s] w fun e w' => e = .returned (.bool (goes x k)) ∧ Below w.heap.size w w' := by
  have hm : goes x k = (x.hi.s.toList.isEmpty || !Op.bytesLess x.hi.s.toList k.s.toList) := by
    rw [no_dec, less_dec, Bool.eq_iff_iff]
    unfold goes ends
    simp only [Bool.or_eq_true, decide_eq_true_eq, Bool.not_eq_true', decide_eq_false_iff_not]
    grind
  rw [hm]
  clear hm
  obtain ⟨t, lo, hi⟩ := x
  simp only
  cases hH : hi.s.toList.isEmpty
  all_goals
    go_enter Try.func51, Try.ntmps51
    go_wp2
    all_goals go_ret
    all_goals exact ⟨ret_bool (by simp), below1 _ _⟩
set_option maxHeartbeats 2000000 in
theorem rtou_any (x l : Lk) (w : World) :
    Calls Try.prog 35 #[.agg #[.int .i64 l.t, .string l.lo.s, .string l.hi.s], .agg #[.int .i64 x.t, .string x.lo.s, .string x.hi.s]] w fun e w' => e = .returned (.bool (touB x l)) ∧ Below w.heap.size w w' := by
  have H1 := Lib.hid fun W => reaches_any l x.lo W
  have H2 := Lib.hid fun W => reaches_any x l.lo W
  unfold touB
  generalize goes l x.lo = G1 at *
  generalize goes x l.lo = G2 at *
  have hb0 := below2 w (.cells #[.int .i64 l.t, .string l.lo.s, .string l.hi.s] 26) (.cells #[.int .i64 x.t, .string x.lo.s, .string x.hi.s] 26)
  have HB0 := Lib.hid hb0
  clear hb0
  have e1 : (w.alloc (.cells #[.int .i64 l.t, .string l.lo.s, .string l.hi.s] 26)).heap.size = w.heap.size + 1 := by simp
  have hbx := below1 (w.alloc (.cells #[.int .i64 l.t, .string l.lo.s, .string l.hi.s] 26)) (.cells #[.int .i64 x.t, .string x.lo.s, .string x.hi.s] 26)
  have a0 := cell_keep (cell_last w #[.int .i64 l.t, .string l.lo.s, .string l.hi.s] 26 w.heap.size 0 rfl) hbx
  have a1 := cell_keep (cell_last w #[.int .i64 l.t, .string l.lo.s, .string l.hi.s] 26 w.heap.size 1 rfl) hbx
  have a2 := cell_keep (cell_last w #[.int .i64 l.t, .string l.lo.s, .string l.hi.s] 26 w.heap.size 2 rfl) hbx
  have b0 := cell_last (w.alloc (.cells #[.int .i64 l.t, .string l.lo.s, .string l.hi.s] 26)) #[.int .i64 x.t, .string x.lo.s, .string x.hi.s] 26 (w.heap.size + 1) 0 e1.symm
  have b1 := cell_last (w.alloc (.cells #[.int .i64 l.t, .string l.lo.s, .string l.hi.s] 26)) #[.int .i64 x.t, .string x.lo.s, .string x.hi.s] 26 (w.heap.size + 1) 1 e1.symm
  have b2 := cell_last (w.alloc (.cells #[.int .i64 l.t, .string l.lo.s, .string l.hi.s] 26)) #[.int .i64 x.t, .string x.lo.s, .string x.hi.s] 26 (w.heap.size + 1) 2 e1.symm
  clear hbx e1
  go_enter Try.func35, Try.ntmps35
  go_upto_region 1 with fail
  generalize (w.alloc (.cells #[.int .i64 l.t, .string l.lo.s, .string l.hi.s] 26)).alloc (.cells #[.int .i64 x.t, .string x.lo.s, .string x.hi.s] 26) = W0 at *
  have A0 : W0.cell? ⟨w.heap.size, 0, none⟩ = some (.int .i64 l.t) := a0
  have A1 : W0.cell? ⟨w.heap.size, 1, none⟩ = some (.string l.lo.s) := a1
  have A2 : W0.cell? ⟨w.heap.size, 2, none⟩ = some (.string l.hi.s) := a2
  have B0 : W0.cell? ⟨w.heap.size + 1, 0, none⟩ = some (.int .i64 x.t) := b0
  have B1 : W0.cell? ⟨w.heap.size + 1, 1, none⟩ = some (.string x.lo.s) := b1
  have B2 : W0.cell? ⟨w.heap.size + 1, 2, none⟩ = some (.string x.hi.s) := b2
  clear a0 a1 a2 b0 b1 b2
  have HK := Lib.hid fun W (hb : Below W0.heap.size W0 W) => (show W.cell? ⟨w.heap.size, 1, none⟩ = some (.string l.lo.s) ∧ W.cell? ⟨w.heap.size + 1, 0, none⟩ = some (.int .i64 x.t) ∧ W.cell? ⟨w.heap.size + 1, 1, none⟩ = some (.string x.lo.s) ∧ W.cell? ⟨w.heap.size + 1, 2, none⟩ = some (.string x.hi.s) from ⟨cell_keep A1 hb, cell_keep B0 hb, cell_keep B1 hb, cell_keep B2 hb⟩)
  by_cases ht : l.t = x.t
  · have hb : (l.t == x.t) = true := by simpa using ht
    have HT := Lib.hid ht
    clear ht
    cases G1
    · go_wp2_with (go_at_call 51; (with_reducible refine (H1.out _).mono ?_); rintro e w1 ⟨rfl, hb1⟩; have HB1 := Lib.hid (thn HB0.out hb1); clear hb1)
      all_goals go_ret
      all_goals exact ⟨ret_bool (by simp), HB1.out⟩
    · go_wp2_with (go_at_call 51; first | ((with_reducible refine (H2.out _).mono ?_); rintro e w2 ⟨rfl, hb2⟩; have HB2 := Lib.hid (thn HB1.out hb2); clear hb2) | ((with_reducible refine (H1.out _).mono ?_); rintro e w1 ⟨rfl, hb1⟩; have HB1 := Lib.hid (thn HB0.out hb1); obtain ⟨d0, d1, d2, d3⟩ := HK.out _ hb1; clear hb1))
      all_goals go_ret
      all_goals exact ⟨ret_bool (by simp [HT.out]), HB2.out⟩
  · have hb : (l.t == x.t) = false := by simpa using ht
    go_wp2_with fail
    all_goals go_ret
    all_goals exact ⟨ret_bool (by simp [ht]), HB0.out⟩
theorem bef_eq (a b : Lk) : decide (ltL a b) = if a.t ≠ b.t then decide (a.t < b.t) else if a.lo ≠ b.lo then decide (a.lo < b.lo) else (decide (a.hi ≠ b.hi) && decide (ordE a.hi b.hi ≤ 0)) := by
  have h := ordE_zero a.hi b.hi
  have hz : ordE a.hi b.hi < 0 ↔ (a.hi ≠ b.hi ∧ ordE a.hi b.hi ≤ 0) := by
    constructor
    · intro h1; exact ⟨fun e => by have := h.2 e; omega, by omega⟩
    · rintro ⟨h1, h2⟩
      have : ordE a.hi b.hi ≠ 0 := fun e => h1 (h.1 e)
      omega
  rw [Bool.eq_iff_iff, decide_eq_true_iff]
  unfold ltL
  rw [hz]
  grind
set_option maxHeartbeats 2000000 in
theorem before_any (a b : Lk) (w : World) :
    Calls Try.prog 43 #[.agg #[.int .i64 a.t, .string a.lo.s, .string a.hi.s], .agg #[.int .i64 b.t, .string b.lo.s, .string b.hi.s]] w fun e w' => e = .returned (.bool (decide (ltL a b))) ∧ Below w.heap.size w w' := by
  have HU := Lib.hid fun W => upto_any a.hi b.hi W
  have hb : decide (ltL a b) = if (a.t != b.t) = true then decide (a.t < b.t) else if (!(a.lo.s.toList == b.lo.s.toList)) = true then Op.bytesLess a.lo.s.toList b.lo.s.toList else (!(a.hi.s.toList == b.hi.s.toList) && decide (ordE a.hi b.hi ≤ 0)) := by
    rw [bef_eq, eq_dec, eq_dec, less_dec]
    simp
  rw [hb]
  clear hb
  generalize decide (ordE a.hi b.hi ≤ 0) = U at *
  have hb0 := below2 w (.cells #[.int .i64 a.t, .string a.lo.s, .string a.hi.s] 26) (.cells #[.int .i64 b.t, .string b.lo.s, .string b.hi.s] 26)
  have HB0 := Lib.hid hb0
  clear hb0
  obtain ⟨t, lo, hi⟩ := a
  obtain ⟨t', lo', hi'⟩ := b
  simp only at HU ⊢
  cases h1 : (t != t')
  · cases h2 : (lo.s.toList == lo'.s.toList)
    · go_enter Try.func43, Try.ntmps43
      go_wp2_with fail
      all_goals go_ret
      all_goals exact ⟨ret_bool (by simp), HB0.out⟩
    · cases h3 : (hi.s.toList == hi'.s.toList)
      all_goals
        go_enter Try.func43, Try.ntmps43
        go_wp2_with (go_at_call 33; (with_reducible refine (HU.out _).mono ?_); rintro e w1 ⟨rfl, rfl⟩)
        all_goals go_ret
        all_goals exact ⟨ret_bool (by simp), HB0.out⟩
  · go_enter Try.func43, Try.ntmps43
    go_wp2_with fail
    all_goals go_ret
    all_goals exact ⟨ret_bool (by simp), HB0.out⟩
theorem one_eq (a b : Lk) : wid a b = ⟨a.t, if b.lo < a.lo then b.lo else a.lo, if decide (ordE a.hi b.hi ≤ 0) = true then b.hi else a.hi⟩ := by
  have h1 := ordE_le a.hi b.hi
  have h2 := ordE_lt a.hi b.hi
  have h3 : 0 < ordE b.hi a.hi ↔ ordE a.hi b.hi < 0 := by
    have g1 := ordE_le b.hi a.hi
    have n1 := no_le a.hi
    have n2 := no_le b.hi
    constructor
    · intro h
      have : ¬ ordE b.hi a.hi ≤ 0 := by omega
      rw [g1] at this
      rw [h2]
      grind
    · intro h
      rw [h2] at h
      have : ¬ ordE b.hi a.hi ≤ 0 := by rw [g1]; grind
      omega
  have h4 := ordE_zero a.hi b.hi
  unfold wid
  refine Lk.ext' rfl rfl ?_
  simp only [h3, decide_eq_true_eq]
  by_cases hc : ordE a.hi b.hi < 0
  · rw [if_pos hc, if_pos (by omega)]
  · rw [if_neg hc]
    split
    · have : ordE a.hi b.hi = 0 := by omega
      exact h4.1 this
    · rfl
set_option maxHeartbeats 4000000 in
theorem one_any (a b : Lk) (w : World) :
    Calls Try.prog 36 #[.agg #[.int .i64 a.t, .string a.lo.s, .string a.hi.s], .agg #[.int .i64 b.t, .string b.lo.s, .string b.hi.s]] w fun e w' => e = .returned (.agg #[.int .i64 (wid a b).t, .string (wid a b).lo.s, .string (wid a b).hi.s]) ∧ Below w.heap.size w w' := by
  have HU := Lib.hid fun W => upto_any a.hi b.hi W
  rw [one_eq]
  simp only
  have hmin : ∀ ts t W, (Builtin.min_ ts t #[.string a.lo.s, .string b.lo.s]).run Try.prog W = .ok (.string (if b.lo < a.lo then b.lo else a.lo).s) W := fun ts t W => by rw [Lib.run_min_strs, minS_eq]
  generalize (if b.lo < a.lo then b.lo else a.lo) = K at *
  generalize decide (ordE a.hi b.hi ≤ 0) = U at *
  have hb0 : Below w.heap.size w (((w.alloc (.cells #[.int .i64 a.t, .string a.lo.s, .string a.hi.s] 26)).alloc (.cells #[.int .i64 b.t, .string b.lo.s, .string b.hi.s] 26)).alloc (.cells #[.int .i64 0, .string ⟨#[]⟩, .string ⟨#[]⟩] 26)) := thn (below2 _ _ _) (below1 _ _)
  have HB0 := Lib.hid hb0
  clear hb0
  cases U
  · go_enter Try.func36, Try.ntmps36
    go_wp2_with (go_at_call 33; (with_reducible refine (HU.out _).mono ?_); rintro e w1 ⟨rfl, rfl⟩)
    exact bodyPost_ret (v := .agg #[.int .i64 a.t, .string K.s, .string a.hi.s]) (by simp [results, Try.results36, go_sem]) rfl ⟨rfl, by repeat (first | exact HB0.out | exact Below.refl _ _ | (refine Below.setCell ?_ (by first | omega | (simp; done) | (simp; omega)) _) | (refine Below.alloc ?_ (by first | omega | (simp; done) | (simp; omega)) _))⟩
  · go_enter Try.func36, Try.ntmps36
    go_wp2_with (go_at_call 33; (with_reducible refine (HU.out _).mono ?_); rintro e w1 ⟨rfl, rfl⟩)
    exact bodyPost_ret (v := .agg #[.int .i64 a.t, .string K.s, .string b.hi.s]) (by simp [results, Try.results36, go_sem]) rfl ⟨rfl, by repeat (first | exact HB0.out | exact Below.refl _ _ | (refine Below.setCell ?_ (by first | omega | (simp; done) | (simp; omega)) _) | (refine Below.alloc ?_ (by first | omega | (simp; done) | (simp; omega)) _))⟩
end Go.Proofs.Ytmjcmeebcochgaa
