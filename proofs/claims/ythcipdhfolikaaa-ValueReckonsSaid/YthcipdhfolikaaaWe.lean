/- ValueReckons of the statements' package answers true for any op and any two values: the walk. Conditions: numbers of 64 bits. -/
import Derived.Test.YthcipdhfolikaaaVp
namespace Go.Proofs.Ythcipdhfolikaaa
open Go.RowKit
set_option linter.unusedSimpArgs false
set_option linter.unusedVariables false

theorem fit_zero : fitB 1 1 0 ⟨#[]⟩ = true := by decide +kernel
theorem neg_plain (k n : Int) (s : ByteArray) (ha : inR n = true) :
    negK k n s = (if fitB 1 k n s = true ∧ k ≠ 0 ∧ n ≠ -9223372036854775808 then 1 else 0) ∧ negN k n s = (if fitB 1 k n s = true ∧ k ≠ 0 ∧ n ≠ -9223372036854775808 then wrap64 (-n) else 0) ∧
    negE k n s = (if fitB 1 k n s = true then (if k = 0 then 0 else if n = -9223372036854775808 then 84 else 0) else 81) := by
  have hz := fit_zero
  have h0 : tru 5 0 n = -n := by unfold tru; omega
  have h1 : inR (-n) = true ↔ n ≠ -9223372036854775808 := by simp [inR] at ha ⊢; omega
  have h2 := @wrap_in (-n)
  refine ⟨?_, ?_, ?_⟩
  · grind [negK, rkK, numE]
  · grind [negN, rkN, numN]
  · grind [negE, rkE, numE]

set_option maxHeartbeats 1000000 in
theorem rneg_any (k n : Int) (s : ByteArray) (w : World) (ha : Hid (inR n = true)) :
    Calls Try.prog 21 #[.agg #[.int .i64 k, .int .i64 n, .string s]] w fun e w' => e = .returned (.tuple #[.agg #[.int .i64 (negK k n s), .int .i64 (negN k n s), .string ⟨#[]⟩], .int .i64 (negE k n s)]) ∧ Below w.heap.size w w' := by
  have hp := Lib.hid (neg_plain k n s ha.out)
  go_enter Try.func21, Try.ntmps21
  go_wp2_with (go_at_call 34; refine (rfits_any _ _ _ _ _).mono ?_; rintro e w1 ⟨rfl, hb1⟩; obtain ⟨hc, hf⟩ := bcell hb1; have z1 := hb1.size; simp only [World.size_alloc] at z1)
  · have hp1 := hp.out
    exact bodyPost_ret (v := .tuple #[.agg #[.int .i64 0, .int .i64 0, .string ⟨#[]⟩], .int .i64 81]) (by simp [results, Try.results21, go_sem, hc]) rfl ⟨ret_val (by grind) (by grind) (by grind), by repeat (first | exact Below.refl _ _ | (refine Below.setCell ?_ (by first | omega | (simp; done) | (simp; omega)) _) | (refine Below.alloc ?_ (by first | omega | (simp; done) | (simp; omega)) _) | (refine below_drewN ?_ _) | (refine Below.drew ?_) | (refine below_call hb1 (by first | omega | (simp; done) | (simp; omega)) ?_))⟩
  · have hp1 := hp.out
    exact bodyPost_ret (v := .tuple #[.agg #[.int .i64 0, .int .i64 0, .string ⟨#[]⟩], .int .i64 0]) (by simp [results, Try.results21, go_sem, hc]) rfl ⟨ret_val (by grind) (by grind) (by grind), by repeat (first | exact Below.refl _ _ | (refine Below.setCell ?_ (by first | omega | (simp; done) | (simp; omega)) _) | (refine Below.alloc ?_ (by first | omega | (simp; done) | (simp; omega)) _) | (refine below_drewN ?_ _) | (refine Below.drew ?_) | (refine below_call hb1 (by first | omega | (simp; done) | (simp; omega)) ?_))⟩
  · have hp1 := hp.out
    exact bodyPost_ret (v := .tuple #[.agg #[.int .i64 0, .int .i64 0, .string ⟨#[]⟩], .int .i64 84]) (by simp [results, Try.results21, go_sem, hc]) rfl ⟨ret_val (by grind) (by grind) (by grind), by repeat (first | exact Below.refl _ _ | (refine Below.setCell ?_ (by first | omega | (simp; done) | (simp; omega)) _) | (refine Below.alloc ?_ (by first | omega | (simp; done) | (simp; omega)) _) | (refine below_drewN ?_ _) | (refine Below.drew ?_) | (refine below_call hb1 (by first | omega | (simp; done) | (simp; omega)) ?_))⟩
  · have hp1 := hp.out
    exact bodyPost_ret (v := .tuple #[.agg #[.int .i64 1, .int .i64 (wrap64 (-n)), .string ⟨#[]⟩], .int .i64 0]) (by simp [results, Try.results21, go_sem, hc]) rfl ⟨ret_val (by grind) (by grind) (by grind), by repeat (first | exact Below.refl _ _ | (refine Below.setCell ?_ (by first | omega | (simp; done) | (simp; omega)) _) | (refine Below.alloc ?_ (by first | omega | (simp; done) | (simp; omega)) _) | (refine below_drewN ?_ _) | (refine Below.drew ?_) | (refine below_call hb1 (by first | omega | (simp; done) | (simp; omega)) ?_))⟩

set_option maxHeartbeats 2000000 in
theorem reckons_any (op : Int) (k n : Int) (s : ByteArray) (k' n' : Int) (s' : ByteArray) (w : World) (ha : inR n = true) (hb : inR n' = true) :
    Calls Try.prog 4 #[.int .i64 op, .agg #[.int .i64 k, .int .i64 n, .string s], .agg #[.int .i64 k', .int .i64 n', .string s']] w fun e w' => e = .returned (.bool true) ∧ Below w.heap.size w w' := by
  have hN := Lib.hid ha
  have hM := Lib.hid hb
  clear ha hb
  go_enter Try.func4, Try.ntmps4
  go_upto_region 1 with (fail)
  obtain ⟨h1, h2⟩ := two_boxes k n s k' n' s' w
  have hA := below2 w (.cells #[.int .i64 k, .int .i64 n, .string s] 23) (.cells #[.int .i64 k', .int .i64 n', .string s'] 23)
  generalize hW : (w.alloc (.cells #[.int .i64 k, .int .i64 n, .string s] 23)).alloc (.cells #[.int .i64 k', .int .i64 n', .string s'] 23) = X0 at h1 h2 hA ⊢
  clear hW
  go_upto_region 2 with (first | (go_at_call 18; refine (reckon_any _ _ _ _ _ _ _ _ hN.out hM.out).mono ?_; rintro e v0 ⟨rfl, hb⟩; have hA : Below w.heap.size w v0 := (by (repeat (first | exact hA | exact Below.refl _ _ | (refine Below.setCell ?_ (by first | omega | (simp; done) | (simp; omega)) _) | (refine Below.alloc ?_ (by first | omega | (simp; done) | (simp; omega)) _) | (refine below_drewN ?_ _) | (refine Below.drew ?_) | (refine below_call hb (by first | omega | (simp; done) | (simp; omega)) ?_)))); have zA := hA.size; have h1 := keep3 hb h1; have h2 := keep3 hb h2))
  have b0 := new3 (recK op k n s k' n' s') (recN op k n s k' n' s') ⟨#[]⟩ v0
  have h1 := keep3 (below1 v0 (.cells #[.int .i64 (recK op k n s k' n' s'), .int .i64 (recN op k n s k' n' s'), .string ⟨#[]⟩] 23)) h1
  have h2 := keep3 (below1 v0 (.cells #[.int .i64 (recK op k n s k' n' s'), .int .i64 (recN op k n s k' n' s'), .string ⟨#[]⟩] 23)) h2
  have hA := hA.trans ((below1 v0 (.cells #[.int .i64 (recK op k n s k' n' s'), .int .i64 (recN op k n s k' n' s'), .string ⟨#[]⟩] 23)).mono hA.size)
  generalize hW : v0.alloc (.cells #[.int .i64 (recK op k n s k' n' s'), .int .i64 (recN op k n s k' n' s'), .string ⟨#[]⟩] 23) = X1 at b0 h1 h2 hA ⊢
  clear hW
  go_upto_region 3 with (first | (go_at_call 19; refine (rreckon_any _ _ _ _ _ _ _ _ hN.out hM.out).mono ?_; rintro e v1 ⟨rfl, hb⟩; have hA : Below w.heap.size w v1 := (by (repeat (first | exact hA | exact Below.refl _ _ | (refine Below.setCell ?_ (by first | omega | (simp; done) | (simp; omega)) _) | (refine Below.alloc ?_ (by first | omega | (simp; done) | (simp; omega)) _) | (refine below_drewN ?_ _) | (refine Below.drew ?_) | (refine below_call hb (by first | omega | (simp; done) | (simp; omega)) ?_)))); have zA := hA.size; have h1 := keep3 hb h1; have h2 := keep3 hb h2; have b0 := keep3 hb b0))
  have b1 := new3 (recK op k n s k' n' s') (recN op k n s k' n' s') ⟨#[]⟩ v1
  have h1 := keep3 (below1 v1 (.cells #[.int .i64 (recK op k n s k' n' s'), .int .i64 (recN op k n s k' n' s'), .string ⟨#[]⟩] 23)) h1
  have h2 := keep3 (below1 v1 (.cells #[.int .i64 (recK op k n s k' n' s'), .int .i64 (recN op k n s k' n' s'), .string ⟨#[]⟩] 23)) h2
  have b0 := keep3 (below1 v1 (.cells #[.int .i64 (recK op k n s k' n' s'), .int .i64 (recN op k n s k' n' s'), .string ⟨#[]⟩] 23)) b0
  have hA := hA.trans ((below1 v1 (.cells #[.int .i64 (recK op k n s k' n' s'), .int .i64 (recN op k n s k' n' s'), .string ⟨#[]⟩] 23)).mono hA.size)
  generalize hW : v1.alloc (.cells #[.int .i64 (recK op k n s k' n' s'), .int .i64 (recN op k n s k' n' s'), .string ⟨#[]⟩] 23) = X2 at b1 h1 h2 b0 hA ⊢
  clear hW
  go_upto_region 4 with (first | (go_at_call 20; refine (neg_any _ _ _ _ hN).mono ?_; rintro e v2 ⟨rfl, hb⟩; have hA : Below w.heap.size w v2 := (by (repeat (first | exact hA | exact Below.refl _ _ | (refine Below.setCell ?_ (by first | omega | (simp; done) | (simp; omega)) _) | (refine Below.alloc ?_ (by first | omega | (simp; done) | (simp; omega)) _) | (refine below_drewN ?_ _) | (refine Below.drew ?_) | (refine below_call hb (by first | omega | (simp; done) | (simp; omega)) ?_)))); have zA := hA.size; have h1 := keep3 hb h1; have h2 := keep3 hb h2; have b0 := keep3 hb b0; have b1 := keep3 hb b1))
  have b2 := new3 (negK k n s) (negN k n s) ⟨#[]⟩ v2
  have h1 := keep3 (below1 v2 (.cells #[.int .i64 (negK k n s), .int .i64 (negN k n s), .string ⟨#[]⟩] 23)) h1
  have h2 := keep3 (below1 v2 (.cells #[.int .i64 (negK k n s), .int .i64 (negN k n s), .string ⟨#[]⟩] 23)) h2
  have b0 := keep3 (below1 v2 (.cells #[.int .i64 (negK k n s), .int .i64 (negN k n s), .string ⟨#[]⟩] 23)) b0
  have b1 := keep3 (below1 v2 (.cells #[.int .i64 (negK k n s), .int .i64 (negN k n s), .string ⟨#[]⟩] 23)) b1
  have hA := hA.trans ((below1 v2 (.cells #[.int .i64 (negK k n s), .int .i64 (negN k n s), .string ⟨#[]⟩] 23)).mono hA.size)
  generalize hW : v2.alloc (.cells #[.int .i64 (negK k n s), .int .i64 (negN k n s), .string ⟨#[]⟩] 23) = X3 at b2 h1 h2 b0 b1 hA ⊢
  clear hW
  go_upto_region 5 with (first | (go_at_call 21; refine (rneg_any _ _ _ _ hN).mono ?_; rintro e v3 ⟨rfl, hb⟩; have hA : Below w.heap.size w v3 := (by (repeat (first | exact hA | exact Below.refl _ _ | (refine Below.setCell ?_ (by first | omega | (simp; done) | (simp; omega)) _) | (refine Below.alloc ?_ (by first | omega | (simp; done) | (simp; omega)) _) | (refine below_drewN ?_ _) | (refine Below.drew ?_) | (refine below_call hb (by first | omega | (simp; done) | (simp; omega)) ?_)))); have zA := hA.size; have h1 := keep3 hb h1; have h2 := keep3 hb h2; have b0 := keep3 hb b0; have b1 := keep3 hb b1; have b2 := keep3 hb b2))
  have b3 := new3 (negK k n s) (negN k n s) ⟨#[]⟩ v3
  have h1 := keep3 (below1 v3 (.cells #[.int .i64 (negK k n s), .int .i64 (negN k n s), .string ⟨#[]⟩] 23)) h1
  have h2 := keep3 (below1 v3 (.cells #[.int .i64 (negK k n s), .int .i64 (negN k n s), .string ⟨#[]⟩] 23)) h2
  have b0 := keep3 (below1 v3 (.cells #[.int .i64 (negK k n s), .int .i64 (negN k n s), .string ⟨#[]⟩] 23)) b0
  have b1 := keep3 (below1 v3 (.cells #[.int .i64 (negK k n s), .int .i64 (negN k n s), .string ⟨#[]⟩] 23)) b1
  have b2 := keep3 (below1 v3 (.cells #[.int .i64 (negK k n s), .int .i64 (negN k n s), .string ⟨#[]⟩] 23)) b2
  have hA := hA.trans ((below1 v3 (.cells #[.int .i64 (negK k n s), .int .i64 (negN k n s), .string ⟨#[]⟩] 23)).mono hA.size)
  generalize hW : v3.alloc (.cells #[.int .i64 (negK k n s), .int .i64 (negN k n s), .string ⟨#[]⟩] 23) = X4 at b3 h1 h2 b0 b1 b2 hA ⊢
  clear hW
  go_wp2_with (first | (go_at_call 17; refine (alive_any _).mono ?_; rintro e w9 ⟨rfl, hb⟩; have hA : Below w.heap.size w w9 := (by (repeat (first | exact hA | exact Below.refl _ _ | (refine Below.setCell ?_ (by first | omega | (simp; done) | (simp; omega)) _) | (refine Below.alloc ?_ (by first | omega | (simp; done) | (simp; omega)) _) | (refine below_drewN ?_ _) | (refine Below.drew ?_) | (refine below_call hb (by first | omega | (simp; done) | (simp; omega)) ?_)))); have zA := hA.size; have h1 := keep3 hb h1; have h2 := keep3 hb h2; have b0 := keep3 hb b0; have b1 := keep3 hb b1; have b2 := keep3 hb b2; have b3 := keep3 hb b3) | (go_at_call 12; refine (lnum_any _ _).mono ?_; rintro e w8 ⟨rfl, rfl⟩))
  go_ret
  exact ⟨rfl, hA⟩

end Go.Proofs.Ythcipdhfolikaaa
