/- ValueNulls of the statements' package answers true for any op and any value: the walk. Conditions: numbers of 64 bits. -/
import Derived.Test.YthcipdhfolikaaaWa
namespace Go.Proofs.Ythcipdhfolikaaa
open Go.RowKit
set_option linter.unusedSimpArgs false
set_option linter.unusedVariables false

theorem rCheck_lit (k n : Int) (s : ByteArray) (c : Int) (h : Hid (checkN k n s = c)) (w : World) :
    Calls Try.prog 14 #[.agg #[.int .i64 k, .int .i64 n, .string s]] w fun e w' => e = .returned (.int .i64 c) ∧ Below w.heap.size w w' := (rCheck_any k n s w).mono fun _ _ ⟨h1, h2⟩ => ⟨by rw [h1, h.out], h2⟩
theorem reckon_lit (op k n : Int) (s : ByteArray) (k' n' : Int) (s' : ByteArray) (a b c : Int) (ha : inR n = true) (hb : inR n' = true) (h : recK op k n s k' n' s' = a ∧ recN op k n s k' n' s' = b ∧ recE op k n s k' n' s' = c) (w : World) :
    Calls Try.prog 18 #[.int .i64 op, .agg #[.int .i64 k, .int .i64 n, .string s], .agg #[.int .i64 k', .int .i64 n', .string s']] w fun e w' => e = .returned (.tuple #[.agg #[.int .i64 a, .int .i64 b, .string ⟨#[]⟩], .int .i64 c]) ∧ Below w.heap.size w w' :=
  (reckon_any op k n s k' n' s' w ha hb).mono fun _ _ ⟨h1, h2⟩ => ⟨by rw [h1, h.1, h.2.1, h.2.2], h2⟩
theorem zero_may : mayB 0 0 ⟨#[]⟩ = true := by decide +kernel

theorem null_good (m k n : Int) (s : ByteArray) (h1 : 4 ≤ m) (h2 : m ≤ 13) (hm : mayB k n s = true) (hg : 8 ≤ m ∨ k ≤ 1) :
    (recK m 0 0 ⟨#[]⟩ k n s = 0 ∧ recN m 0 0 ⟨#[]⟩ k n s = 0 ∧ recE m 0 0 ⟨#[]⟩ k n s = 0) ∧ (recK m k n s 0 0 ⟨#[]⟩ = 0 ∧ recN m k n s 0 0 ⟨#[]⟩ = 0 ∧ recE m k n s 0 0 ⟨#[]⟩ = 0) := by
  have hz := zero_may
  have hr := mayB_range hm
  refine ⟨⟨?_, ?_, ?_⟩, ?_, ?_, ?_⟩
  · grind [recK, rkK, rtK, cmpKnown]
  · grind [recN, rkN, rtN, cmpKnown]
  · grind [recE, rkE, cmpE, cmpOk, fitB]
  · grind [recK, rkK, rtK, cmpKnown]
  · grind [recN, rkN, rtN, cmpKnown]
  · grind [recE, rkE, cmpE, cmpOk, fitB]
theorem null_bad (m k n : Int) (s : ByteArray) (h1 : 4 ≤ m) (h2 : m ≤ 13) (hg : mayB k n s = false ∨ (m < 8 ∧ 1 < k)) :
    (recK m 0 0 ⟨#[]⟩ k n s = 0 ∧ recN m 0 0 ⟨#[]⟩ k n s = 0 ∧ recE m 0 0 ⟨#[]⟩ k n s = 81) ∧ (recK m k n s 0 0 ⟨#[]⟩ = 0 ∧ recN m k n s 0 0 ⟨#[]⟩ = 0 ∧ recE m k n s 0 0 ⟨#[]⟩ = 81) := by
  refine ⟨⟨?_, ?_, ?_⟩, ?_, ?_, ?_⟩
  · grind [recK, rkK, rtK, cmpKnown]
  · grind [recN, rkN, rtN, cmpKnown]
  · grind [recE, rkE, cmpE, cmpOk, fitB]
  · grind [recK, rkK, rtK, cmpKnown]
  · grind [recN, rkN, rtN, cmpKnown]
  · grind [recE, rkE, cmpE, cmpOk, fitB]

theorem op_bd (op : Int) : 4 ≤ wrap64 (4 + (wrap64 (op.tmod 10 + 10)).tmod 10) ∧ wrap64 (4 + (wrap64 (op.tmod 10 + 10)).tmod 10) ≤ 13 := by
  have h1 : (op.tmod 10).natAbs < 10 := by rw [Int.natAbs_tmod]; exact Nat.mod_lt _ (by decide)
  have h2 : wrap64 (op.tmod 10 + 10) = op.tmod 10 + 10 := by unfold wrap64; omega
  rw [h2]
  have h3 : ((op.tmod 10 + 10).tmod 10).natAbs < 10 := by rw [Int.natAbs_tmod]; exact Nat.mod_lt _ (by decide)
  have h4 : 0 ≤ (op.tmod 10 + 10).tmod 10 := Int.tmod_nonneg _ (by omega)
  have h5 : wrap64 (4 + (op.tmod 10 + 10).tmod 10) = 4 + (op.tmod 10 + 10).tmod 10 := by unfold wrap64; omega
  rw [h5]; omega

set_option maxHeartbeats 1000000 in
theorem nulls_any (op k n : Int) (s : ByteArray) (w : World) (hop : inR op = true) (hn : inR n = true) :
    Calls Try.prog 9 #[.int .i64 op, .agg #[.int .i64 k, .int .i64 n, .string s]] w fun e w' => e = .returned (.bool true) ∧ Below w.heap.size w w' := by
  have hb0 : -9223372036854775808 ≤ op ∧ op ≤ 9223372036854775807 := by simpa [inR] using hop
  have hN := Lib.hid hn
  have hZ := Lib.hid (show inR 0 = true by decide +kernel)
  clear hop hn
  obtain ⟨hb1, hb2⟩ := hb0
  go_enter Try.func9, Try.ntmps9
  go_upto_region 1 with (fail)
  have h1 := new3 k n s w
  have hA := below1 w (.cells #[.int .i64 k, .int .i64 n, .string s] 23)
  generalize hW : w.alloc (.cells #[.int .i64 k, .int .i64 n, .string s] 23) = X0 at h1 hA ⊢
  clear hW
  go_upto_region 3 with (first | (go_at_call 17; refine (alive_any _).mono ?_; rintro e w0 ⟨rfl, hb⟩; have hA : Below w.heap.size w w0 := (by (repeat (first | exact hA | exact Below.refl _ _ | (refine Below.setCell ?_ (by first | omega | (simp; done) | (simp; omega)) _) | (refine Below.alloc ?_ (by first | omega | (simp; done) | (simp; omega)) _) | (refine below_drewN ?_ _) | (refine Below.drew ?_) | (refine below_call hb (by first | omega | (simp; done) | (simp; omega)) ?_)))); have zA := hA.size; have h1 := keep3 hb h1))
  go_upto_region 4 with (fail)
  have hmb := op_bd op
  generalize hm : wrap64 (4 + (wrap64 (op.tmod 10 + 10)).tmod 10) = m at hmb ⊢
  clear hm hb1 hb2
  obtain ⟨hm1, hm2⟩ := hmb
  by_cases hM : mayB k n s = true
  · have hC : Hid (checkN k n s = 0) := (if_pos hM)
    by_cases h8 : 8 ≤ m
    · have hL := Lib.hid (null_good m k n s hm1 hm2 hM (Or.inl h8))
      clear hM
      go_upto_region 5 with (first | (go_at_call 18; refine (reckon_lit _ _ _ _ _ _ _ 0 0 0 hZ.out hN.out hL.out.1 _).mono ?_; rintro e v0 ⟨rfl, hb⟩; have hA : Below w.heap.size w v0 := (by (repeat (first | exact hA | exact Below.refl _ _ | (refine Below.setCell ?_ (by first | omega | (simp; done) | (simp; omega)) _) | (refine Below.alloc ?_ (by first | omega | (simp; done) | (simp; omega)) _) | (refine below_drewN ?_ _) | (refine Below.drew ?_) | (refine below_call hb (by first | omega | (simp; done) | (simp; omega)) ?_)))); have zA := hA.size; have h1 := keep3 hb h1))
      have b0 := new3 0 0 ⟨#[]⟩ v0
      have h1 := keep3 (below1 v0 (.cells #[.int .i64 0, .int .i64 0, .string ⟨#[]⟩] 23)) h1
      have hA := hA.trans ((below1 v0 (.cells #[.int .i64 0, .int .i64 0, .string ⟨#[]⟩] 23)).mono hA.size)
      generalize hW : v0.alloc (.cells #[.int .i64 0, .int .i64 0, .string ⟨#[]⟩] 23) = X2 at b0 h1 hA ⊢
      clear hW
      go_upto_region 6 with (first | (go_at_call 18; refine (reckon_lit _ _ _ _ _ _ _ 0 0 0 hN.out hZ.out hL.out.2 _).mono ?_; rintro e v1 ⟨rfl, hb⟩; have hA : Below w.heap.size w v1 := (by (repeat (first | exact hA | exact Below.refl _ _ | (refine Below.setCell ?_ (by first | omega | (simp; done) | (simp; omega)) _) | (refine Below.alloc ?_ (by first | omega | (simp; done) | (simp; omega)) _) | (refine below_drewN ?_ _) | (refine Below.drew ?_) | (refine below_call hb (by first | omega | (simp; done) | (simp; omega)) ?_)))); have zA := hA.size; have h1 := keep3 hb h1; have b0 := keep3 hb b0))
      have b1 := new3 0 0 ⟨#[]⟩ v1
      have h1 := keep3 (below1 v1 (.cells #[.int .i64 0, .int .i64 0, .string ⟨#[]⟩] 23)) h1
      have b0 := keep3 (below1 v1 (.cells #[.int .i64 0, .int .i64 0, .string ⟨#[]⟩] 23)) b0
      have hA := hA.trans ((below1 v1 (.cells #[.int .i64 0, .int .i64 0, .string ⟨#[]⟩] 23)).mono hA.size)
      generalize hW : v1.alloc (.cells #[.int .i64 0, .int .i64 0, .string ⟨#[]⟩] 23) = X3 at b1 h1 b0 hA ⊢
      clear hW
      go_wp2_with (first | (go_at_call 14; refine (rCheck_lit _ _ _ _ hC _).mono ?_; rintro e v2 ⟨rfl, hb⟩; have hA : Below w.heap.size w v2 := (by (repeat (first | exact hA | exact Below.refl _ _ | (refine Below.setCell ?_ (by first | omega | (simp; done) | (simp; omega)) _) | (refine Below.alloc ?_ (by first | omega | (simp; done) | (simp; omega)) _) | (refine below_drewN ?_ _) | (refine Below.drew ?_) | (refine below_call hb (by first | omega | (simp; done) | (simp; omega)) ?_)))); have zA := hA.size; have h1 := keep3 hb h1; have b0 := keep3 hb b0; have b1 := keep3 hb b1) | (go_at_call 12; refine (lnum_any _ _).mono ?_; rintro e w9 ⟨rfl, rfl⟩))
      go_ret
      exact ⟨rfl, hA⟩
    · by_cases hk : k ≤ 1
      · have hL := Lib.hid (null_good m k n s hm1 hm2 hM (Or.inr hk))
        clear hM
        go_upto_region 5 with (first | (go_at_call 18; refine (reckon_lit _ _ _ _ _ _ _ 0 0 0 hZ.out hN.out hL.out.1 _).mono ?_; rintro e v0 ⟨rfl, hb⟩; have hA : Below w.heap.size w v0 := (by (repeat (first | exact hA | exact Below.refl _ _ | (refine Below.setCell ?_ (by first | omega | (simp; done) | (simp; omega)) _) | (refine Below.alloc ?_ (by first | omega | (simp; done) | (simp; omega)) _) | (refine below_drewN ?_ _) | (refine Below.drew ?_) | (refine below_call hb (by first | omega | (simp; done) | (simp; omega)) ?_)))); have zA := hA.size; have h1 := keep3 hb h1))
        have b0 := new3 0 0 ⟨#[]⟩ v0
        have h1 := keep3 (below1 v0 (.cells #[.int .i64 0, .int .i64 0, .string ⟨#[]⟩] 23)) h1
        have hA := hA.trans ((below1 v0 (.cells #[.int .i64 0, .int .i64 0, .string ⟨#[]⟩] 23)).mono hA.size)
        generalize hW : v0.alloc (.cells #[.int .i64 0, .int .i64 0, .string ⟨#[]⟩] 23) = X2 at b0 h1 hA ⊢
        clear hW
        go_upto_region 6 with (first | (go_at_call 18; refine (reckon_lit _ _ _ _ _ _ _ 0 0 0 hN.out hZ.out hL.out.2 _).mono ?_; rintro e v1 ⟨rfl, hb⟩; have hA : Below w.heap.size w v1 := (by (repeat (first | exact hA | exact Below.refl _ _ | (refine Below.setCell ?_ (by first | omega | (simp; done) | (simp; omega)) _) | (refine Below.alloc ?_ (by first | omega | (simp; done) | (simp; omega)) _) | (refine below_drewN ?_ _) | (refine Below.drew ?_) | (refine below_call hb (by first | omega | (simp; done) | (simp; omega)) ?_)))); have zA := hA.size; have h1 := keep3 hb h1; have b0 := keep3 hb b0))
        have b1 := new3 0 0 ⟨#[]⟩ v1
        have h1 := keep3 (below1 v1 (.cells #[.int .i64 0, .int .i64 0, .string ⟨#[]⟩] 23)) h1
        have b0 := keep3 (below1 v1 (.cells #[.int .i64 0, .int .i64 0, .string ⟨#[]⟩] 23)) b0
        have hA := hA.trans ((below1 v1 (.cells #[.int .i64 0, .int .i64 0, .string ⟨#[]⟩] 23)).mono hA.size)
        generalize hW : v1.alloc (.cells #[.int .i64 0, .int .i64 0, .string ⟨#[]⟩] 23) = X3 at b1 h1 b0 hA ⊢
        clear hW
        go_wp2_with (first | (go_at_call 14; refine (rCheck_lit _ _ _ _ hC _).mono ?_; rintro e v2 ⟨rfl, hb⟩; have hA : Below w.heap.size w v2 := (by (repeat (first | exact hA | exact Below.refl _ _ | (refine Below.setCell ?_ (by first | omega | (simp; done) | (simp; omega)) _) | (refine Below.alloc ?_ (by first | omega | (simp; done) | (simp; omega)) _) | (refine below_drewN ?_ _) | (refine Below.drew ?_) | (refine below_call hb (by first | omega | (simp; done) | (simp; omega)) ?_)))); have zA := hA.size; have h1 := keep3 hb h1; have b0 := keep3 hb b0; have b1 := keep3 hb b1) | (go_at_call 12; refine (lnum_any _ _).mono ?_; rintro e w9 ⟨rfl, rfl⟩))
        go_ret
        exact ⟨rfl, hA⟩
      · have hL := Lib.hid (null_bad m k n s hm1 hm2 (Or.inr ⟨by omega, by omega⟩))
        have e1 : decide (8 ≤ m) = false := by simpa using h8
        have e2 : decide (k ≤ 1) = false := by simpa using hk
        clear hM
        go_upto_region 5 with (first | (go_at_call 18; refine (reckon_lit _ _ _ _ _ _ _ 0 0 81 hZ.out hN.out hL.out.1 _).mono ?_; rintro e v0 ⟨rfl, hb⟩; have hA : Below w.heap.size w v0 := (by (repeat (first | exact hA | exact Below.refl _ _ | (refine Below.setCell ?_ (by first | omega | (simp; done) | (simp; omega)) _) | (refine Below.alloc ?_ (by first | omega | (simp; done) | (simp; omega)) _) | (refine below_drewN ?_ _) | (refine Below.drew ?_) | (refine below_call hb (by first | omega | (simp; done) | (simp; omega)) ?_)))); have zA := hA.size; have h1 := keep3 hb h1))
        have b0 := new3 0 0 ⟨#[]⟩ v0
        have h1 := keep3 (below1 v0 (.cells #[.int .i64 0, .int .i64 0, .string ⟨#[]⟩] 23)) h1
        have hA := hA.trans ((below1 v0 (.cells #[.int .i64 0, .int .i64 0, .string ⟨#[]⟩] 23)).mono hA.size)
        generalize hW : v0.alloc (.cells #[.int .i64 0, .int .i64 0, .string ⟨#[]⟩] 23) = X2 at b0 h1 hA ⊢
        clear hW
        go_upto_region 6 with (first | (go_at_call 18; refine (reckon_lit _ _ _ _ _ _ _ 0 0 81 hN.out hZ.out hL.out.2 _).mono ?_; rintro e v1 ⟨rfl, hb⟩; have hA : Below w.heap.size w v1 := (by (repeat (first | exact hA | exact Below.refl _ _ | (refine Below.setCell ?_ (by first | omega | (simp; done) | (simp; omega)) _) | (refine Below.alloc ?_ (by first | omega | (simp; done) | (simp; omega)) _) | (refine below_drewN ?_ _) | (refine Below.drew ?_) | (refine below_call hb (by first | omega | (simp; done) | (simp; omega)) ?_)))); have zA := hA.size; have h1 := keep3 hb h1; have b0 := keep3 hb b0))
        have b1 := new3 0 0 ⟨#[]⟩ v1
        have h1 := keep3 (below1 v1 (.cells #[.int .i64 0, .int .i64 0, .string ⟨#[]⟩] 23)) h1
        have b0 := keep3 (below1 v1 (.cells #[.int .i64 0, .int .i64 0, .string ⟨#[]⟩] 23)) b0
        have hA := hA.trans ((below1 v1 (.cells #[.int .i64 0, .int .i64 0, .string ⟨#[]⟩] 23)).mono hA.size)
        generalize hW : v1.alloc (.cells #[.int .i64 0, .int .i64 0, .string ⟨#[]⟩] 23) = X3 at b1 h1 b0 hA ⊢
        clear hW
        go_wp2_with (first | (go_at_call 14; refine (rCheck_lit _ _ _ _ hC _).mono ?_; rintro e v2 ⟨rfl, hb⟩; have hA : Below w.heap.size w v2 := (by (repeat (first | exact hA | exact Below.refl _ _ | (refine Below.setCell ?_ (by first | omega | (simp; done) | (simp; omega)) _) | (refine Below.alloc ?_ (by first | omega | (simp; done) | (simp; omega)) _) | (refine below_drewN ?_ _) | (refine Below.drew ?_) | (refine below_call hb (by first | omega | (simp; done) | (simp; omega)) ?_)))); have zA := hA.size; have h1 := keep3 hb h1; have b0 := keep3 hb b0; have b1 := keep3 hb b1) | (go_at_call 12; refine (lnum_any _ _).mono ?_; rintro e w9 ⟨rfl, rfl⟩))
        go_ret
        exact ⟨rfl, hA⟩
  · have hC : Hid (checkN k n s = 9) := (if_neg hM)
    have hL := Lib.hid (null_bad m k n s hm1 hm2 (Or.inl (by simpa using hM)))
    clear hM
    go_upto_region 5 with (first | (go_at_call 18; refine (reckon_lit _ _ _ _ _ _ _ 0 0 81 hZ.out hN.out hL.out.1 _).mono ?_; rintro e v0 ⟨rfl, hb⟩; have hA : Below w.heap.size w v0 := (by (repeat (first | exact hA | exact Below.refl _ _ | (refine Below.setCell ?_ (by first | omega | (simp; done) | (simp; omega)) _) | (refine Below.alloc ?_ (by first | omega | (simp; done) | (simp; omega)) _) | (refine below_drewN ?_ _) | (refine Below.drew ?_) | (refine below_call hb (by first | omega | (simp; done) | (simp; omega)) ?_)))); have zA := hA.size; have h1 := keep3 hb h1))
    have b0 := new3 0 0 ⟨#[]⟩ v0
    have h1 := keep3 (below1 v0 (.cells #[.int .i64 0, .int .i64 0, .string ⟨#[]⟩] 23)) h1
    have hA := hA.trans ((below1 v0 (.cells #[.int .i64 0, .int .i64 0, .string ⟨#[]⟩] 23)).mono hA.size)
    generalize hW : v0.alloc (.cells #[.int .i64 0, .int .i64 0, .string ⟨#[]⟩] 23) = X2 at b0 h1 hA ⊢
    clear hW
    go_upto_region 6 with (first | (go_at_call 18; refine (reckon_lit _ _ _ _ _ _ _ 0 0 81 hN.out hZ.out hL.out.2 _).mono ?_; rintro e v1 ⟨rfl, hb⟩; have hA : Below w.heap.size w v1 := (by (repeat (first | exact hA | exact Below.refl _ _ | (refine Below.setCell ?_ (by first | omega | (simp; done) | (simp; omega)) _) | (refine Below.alloc ?_ (by first | omega | (simp; done) | (simp; omega)) _) | (refine below_drewN ?_ _) | (refine Below.drew ?_) | (refine below_call hb (by first | omega | (simp; done) | (simp; omega)) ?_)))); have zA := hA.size; have h1 := keep3 hb h1; have b0 := keep3 hb b0))
    have b1 := new3 0 0 ⟨#[]⟩ v1
    have h1 := keep3 (below1 v1 (.cells #[.int .i64 0, .int .i64 0, .string ⟨#[]⟩] 23)) h1
    have b0 := keep3 (below1 v1 (.cells #[.int .i64 0, .int .i64 0, .string ⟨#[]⟩] 23)) b0
    have hA := hA.trans ((below1 v1 (.cells #[.int .i64 0, .int .i64 0, .string ⟨#[]⟩] 23)).mono hA.size)
    generalize hW : v1.alloc (.cells #[.int .i64 0, .int .i64 0, .string ⟨#[]⟩] 23) = X3 at b1 h1 b0 hA ⊢
    clear hW
    go_wp2_with (first | (go_at_call 14; refine (rCheck_lit _ _ _ _ hC _).mono ?_; rintro e v2 ⟨rfl, hb⟩; have hA : Below w.heap.size w v2 := (by (repeat (first | exact hA | exact Below.refl _ _ | (refine Below.setCell ?_ (by first | omega | (simp; done) | (simp; omega)) _) | (refine Below.alloc ?_ (by first | omega | (simp; done) | (simp; omega)) _) | (refine below_drewN ?_ _) | (refine Below.drew ?_) | (refine below_call hb (by first | omega | (simp; done) | (simp; omega)) ?_)))); have zA := hA.size; have h1 := keep3 hb h1; have b0 := keep3 hb b0; have b1 := keep3 hb b1) | (go_at_call 12; refine (lnum_any _ _).mono ?_; rintro e w9 ⟨rfl, rfl⟩))
    go_ret
    exact ⟨rfl, hA⟩

end Go.Proofs.Ythcipdhfolikaaa
