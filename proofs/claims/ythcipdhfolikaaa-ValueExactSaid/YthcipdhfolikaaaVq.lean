/- alive of the statements' package is true: the walk. Conditions: none. -/
import Derived.Test.YthcipdhfolikaaaVo
import Derived.Deep.DeepCutAuto
import Derived.Deep.RegionHeld3
namespace Go.Proofs.Ythcipdhfolikaaa
open Go.RowKit
set_option linter.unusedSimpArgs false
set_option linter.unusedVariables false

theorem ex_1 (w : World) : Calls Try.prog 18 #[.int .i64 4, .agg #[.int .i64 1, .int .i64 9223372036854775807, .string ⟨#[]⟩], .agg #[.int .i64 1, .int .i64 1, .string ⟨#[]⟩]] w fun e w' => e = .returned (.tuple #[.agg #[.int .i64 0, .int .i64 0, .string ⟨#[]⟩], .int .i64 84]) ∧ Below w.heap.size w w' := by
  have h1 : recK 4 1 9223372036854775807 ⟨#[]⟩ 1 1 ⟨#[]⟩ = 0 := by decide +kernel
  have h2 : recN 4 1 9223372036854775807 ⟨#[]⟩ 1 1 ⟨#[]⟩ = 0 := by decide +kernel
  have h := reckon_any 4 1 9223372036854775807 ⟨#[]⟩ 1 1 ⟨#[]⟩ w (by decide +kernel) (by decide +kernel)
  rw [h1, h2, alive_1] at h
  exact h
theorem ex_2 (w : World) : Calls Try.prog 22 #[.agg #[.int .i64 0, .int .i64 0, .string ⟨#[]⟩], .agg #[.int .i64 2, .int .i64 0, .string ⟨#[]⟩]] w fun e w' => e = .returned (.tuple #[.agg #[.int .i64 2, .int .i64 0, .string ⟨#[]⟩], .int .i64 0]) ∧ Below w.heap.size w w' := by
  have h := and_any 0 0 ⟨#[]⟩ 2 0 ⟨#[]⟩ w
  rw [alive_2.1, alive_2.2.1, alive_2.2.2] at h
  exact h
theorem ex_3 (w : World) : Calls Try.prog 18 #[.int .i64 7, .agg #[.int .i64 1, .int .i64 (-7), .string ⟨#[]⟩], .agg #[.int .i64 1, .int .i64 2, .string ⟨#[]⟩]] w fun e w' => e = .returned (.tuple #[.agg #[.int .i64 1, .int .i64 (-3), .string ⟨#[]⟩], .int .i64 0]) ∧ Below w.heap.size w w' := by
  have h := reckon_any 7 1 (-7) ⟨#[]⟩ 1 2 ⟨#[]⟩ w (by decide +kernel) (by decide +kernel)
  rw [alive_3.1, alive_3.2.1, alive_3.2.2] at h
  exact h

theorem keep3 {g : Nat} {a b : Int} {s : ByteArray} {W w' : World} (hb : Below W.heap.size W w') (h : g < W.heap.size ∧ W.cell? ⟨g, 0, none⟩ = some (.int .i64 a) ∧ W.cell? ⟨g, 1, none⟩ = some (.int .i64 b) ∧ W.cell? ⟨g, 2, none⟩ = some (.string s)) :
    g < w'.heap.size ∧ w'.cell? ⟨g, 0, none⟩ = some (.int .i64 a) ∧ w'.cell? ⟨g, 1, none⟩ = some (.int .i64 b) ∧ w'.cell? ⟨g, 2, none⟩ = some (.string s) := by
  obtain ⟨hc, hf⟩ := bcell hb
  exact ⟨Nat.lt_of_lt_of_le h.1 hb.size, by rw [hc _ _ h.1]; exact h.2.1, by rw [hc _ _ h.1]; exact h.2.2.1, by rw [hc _ _ h.1]; exact h.2.2.2⟩
theorem new3 (a b : Int) (s : ByteArray) (W : World) : W.heap.size < (W.alloc (.cells #[.int .i64 a, .int .i64 b, .string s] 23)).heap.size ∧ (W.alloc (.cells #[.int .i64 a, .int .i64 b, .string s] 23)).cell? ⟨W.heap.size, 0, none⟩ = some (.int .i64 a) ∧ (W.alloc (.cells #[.int .i64 a, .int .i64 b, .string s] 23)).cell? ⟨W.heap.size, 1, none⟩ = some (.int .i64 b) ∧ (W.alloc (.cells #[.int .i64 a, .int .i64 b, .string s] 23)).cell? ⟨W.heap.size, 2, none⟩ = some (.string s) :=
  ⟨by simp, by rw [cell_last _ _ _ _ _ rfl]; rfl, by rw [cell_last _ _ _ _ _ rfl]; rfl, by rw [cell_last _ _ _ _ _ rfl]; rfl⟩

theorem keepA {w W w' : World} {g g' : Nat} (hb : Below W.heap.size W w')
    (h : g < W.heap.size ∧ W.cell? ⟨g, 0, none⟩ = some (.int .i64 2) ∧ W.cell? ⟨g, 1, none⟩ = some (.int .i64 0) ∧ W.cell? ⟨g, 2, none⟩ = some (.string ⟨#[]⟩) ∧ g' < W.heap.size ∧ W.cell? ⟨g', 0, none⟩ = some (.int .i64 1) ∧ W.cell? ⟨g', 1, none⟩ = some (.int .i64 (-3)) ∧ W.cell? ⟨g', 2, none⟩ = some (.string ⟨#[]⟩) ∧ Below w.heap.size w W) :
    g < w'.heap.size ∧ w'.cell? ⟨g, 0, none⟩ = some (.int .i64 2) ∧ w'.cell? ⟨g, 1, none⟩ = some (.int .i64 0) ∧ w'.cell? ⟨g, 2, none⟩ = some (.string ⟨#[]⟩) ∧ g' < w'.heap.size ∧ w'.cell? ⟨g', 0, none⟩ = some (.int .i64 1) ∧ w'.cell? ⟨g', 1, none⟩ = some (.int .i64 (-3)) ∧ w'.cell? ⟨g', 2, none⟩ = some (.string ⟨#[]⟩) ∧ Below w.heap.size w w' := by
  obtain ⟨l1, a0, a1, a2, l2, b0, b1, b2, hB⟩ := h
  obtain ⟨m1, x0, x1, x2⟩ := keep3 hb ⟨l1, a0, a1, a2⟩
  obtain ⟨m2, y0, y1, y2⟩ := keep3 hb ⟨l2, b0, b1, b2⟩
  exact ⟨m1, x0, x1, x2, m2, y0, y1, y2, below_call hb hB.size hB⟩

set_option maxHeartbeats 1000000 in
theorem alive_any (w : World) : Calls Try.prog 17 #[] w fun e w' => e = .returned (.bool true) ∧ Below w.heap.size w w' := by
  go_enter Try.func17, Try.ntmps17
  go_upto_region 3 with (first | (go_at_call 25; refine (lnumber_any _ _).mono ?_; rintro e w1 ⟨rfl, hb⟩; have hA : Below w.heap.size w w1 := (by (repeat (first | exact hA | exact Below.refl _ _ | (refine Below.setCell ?_ (by first | omega | (simp; done) | (simp; omega)) _) | (refine Below.alloc ?_ (by first | omega | (simp; done) | (simp; omega)) _) | (refine below_drewN ?_ _) | (refine Below.drew ?_) | (refine below_call hb (by first | omega | (simp; done) | (simp; omega)) ?_)))); have zA := hA.size) | (go_at_call 18; refine (ex_1 _).mono ?_; rintro e w2 ⟨rfl, hb⟩; have hA : Below w.heap.size w w2 := (by (repeat (first | exact hA | exact Below.refl _ _ | (refine Below.setCell ?_ (by first | omega | (simp; done) | (simp; omega)) _) | (refine Below.alloc ?_ (by first | omega | (simp; done) | (simp; omega)) _) | (refine below_drewN ?_ _) | (refine Below.drew ?_) | (refine below_call hb (by first | omega | (simp; done) | (simp; omega)) ?_)))); have zA := hA.size) | (go_at_call 31; refine (no_any _).mono ?_; rintro e w3 ⟨rfl, hb⟩; have hA : Below w.heap.size w w3 := (by (repeat (first | exact hA | exact Below.refl _ _ | (refine Below.setCell ?_ (by first | omega | (simp; done) | (simp; omega)) _) | (refine Below.alloc ?_ (by first | omega | (simp; done) | (simp; omega)) _) | (refine below_drewN ?_ _) | (refine Below.drew ?_) | (refine below_call hb (by first | omega | (simp; done) | (simp; omega)) ?_)))); have zA := hA.size) | (go_at_call 22; refine (ex_2 _).mono ?_; rintro e wA ⟨rfl, hb⟩; have hA : Below w.heap.size w wA := (by (repeat (first | exact hA | exact Below.refl _ _ | (refine Below.setCell ?_ (by first | omega | (simp; done) | (simp; omega)) _) | (refine Below.alloc ?_ (by first | omega | (simp; done) | (simp; omega)) _) | (refine below_drewN ?_ _) | (refine Below.drew ?_) | (refine below_call hb (by first | omega | (simp; done) | (simp; omega)) ?_)))); have zA := hA.size))
  have hV := new3 2 0 ⟨#[]⟩ wA
  have hA3 := hA.trans ((below1 wA (.cells #[.int .i64 2, .int .i64 0, .string ⟨#[]⟩] 23)).mono zA)
  generalize hW3 : wA.alloc (.cells #[.int .i64 2, .int .i64 0, .string ⟨#[]⟩] 23) = W3 at hV hA3 ⊢
  clear hW3 hb hA
  have hA := hA3
  clear hA3
  have zA := hA.size
  go_upto_region 4 with (first | (go_at_call 25; refine (lnumber_any _ _).mono ?_; rintro e w5 ⟨rfl, hb⟩; have hA : Below w.heap.size w w5 := (by (repeat (first | exact hA | exact Below.refl _ _ | (refine Below.setCell ?_ (by first | omega | (simp; done) | (simp; omega)) _) | (refine Below.alloc ?_ (by first | omega | (simp; done) | (simp; omega)) _) | (refine below_drewN ?_ _) | (refine Below.drew ?_) | (refine below_call hb (by first | omega | (simp; done) | (simp; omega)) ?_)))); have zA := hA.size; have hV := keep3 hb hV) | (go_at_call 18; refine (ex_3 _).mono ?_; rintro e w6 ⟨rfl, hb⟩; have hA : Below w.heap.size w w6 := (by (repeat (first | exact hA | exact Below.refl _ _ | (refine Below.setCell ?_ (by first | omega | (simp; done) | (simp; omega)) _) | (refine Below.alloc ?_ (by first | omega | (simp; done) | (simp; omega)) _) | (refine below_drewN ?_ _) | (refine Below.drew ?_) | (refine below_call hb (by first | omega | (simp; done) | (simp; omega)) ?_)))); have zA := hA.size; have hV := keep3 hb hV))
  have hU := new3 1 (-3) ⟨#[]⟩ w6
  have hV6 := keep3 (below1 w6 (.cells #[.int .i64 1, .int .i64 (-3), .string ⟨#[]⟩] 23)) hV
  have hA6 := hA.trans ((below1 w6 (.cells #[.int .i64 1, .int .i64 (-3), .string ⟨#[]⟩] 23)).mono zA)
  generalize hW6 : w6.alloc (.cells #[.int .i64 1, .int .i64 (-3), .string ⟨#[]⟩] 23) = W6 at hU hV6 hA6 ⊢
  have hS0 : wA.heap.size < W6.drew.heap.size ∧ W6.drew.cell? ⟨wA.heap.size, 0, none⟩ = some (.int .i64 2) ∧ W6.drew.cell? ⟨wA.heap.size, 1, none⟩ = some (.int .i64 0) ∧ W6.drew.cell? ⟨wA.heap.size, 2, none⟩ = some (.string ⟨#[]⟩) ∧ w6.heap.size < W6.drew.heap.size ∧ W6.drew.cell? ⟨w6.heap.size, 0, none⟩ = some (.int .i64 1) ∧ W6.drew.cell? ⟨w6.heap.size, 1, none⟩ = some (.int .i64 (-3)) ∧ W6.drew.cell? ⟨w6.heap.size, 2, none⟩ = some (.string ⟨#[]⟩) ∧ Below w.heap.size w W6.drew := ⟨hV6.1, hV6.2.1, hV6.2.2.1, hV6.2.2.2, hU.1, hU.2.1, hU.2.2.1, hU.2.2.2, hA6.drew⟩
  clear hW6 hA hb hV zA hU hV6 hA6
  first | go_region_held3 (fun W => wA.heap.size < W.heap.size ∧ W.cell? ⟨wA.heap.size, 0, none⟩ = some (.int .i64 2) ∧ W.cell? ⟨wA.heap.size, 1, none⟩ = some (.int .i64 0) ∧ W.cell? ⟨wA.heap.size, 2, none⟩ = some (.string ⟨#[]⟩) ∧ w6.heap.size < W.heap.size ∧ W.cell? ⟨w6.heap.size, 0, none⟩ = some (.int .i64 1) ∧ W.cell? ⟨w6.heap.size, 1, none⟩ = some (.int .i64 (-3)) ∧ W.cell? ⟨w6.heap.size, 2, none⟩ = some (.string ⟨#[]⟩) ∧ Below w.heap.size w W)
    (first | exact hS | exact hS0 | assumption)
    (first | (go_at_call 12; refine (lnum_any _ _).mono ?_; rintro e w7 ⟨rfl, rfl⟩) | (go_at_call 31; refine (no_any _).mono ?_; rintro e w8 ⟨rfl, hb⟩; have hS : wA.heap.size < w8.heap.size ∧ w8.cell? ⟨wA.heap.size, 0, none⟩ = some (.int .i64 2) ∧ w8.cell? ⟨wA.heap.size, 1, none⟩ = some (.int .i64 0) ∧ w8.cell? ⟨wA.heap.size, 2, none⟩ = some (.string ⟨#[]⟩) ∧ w6.heap.size < w8.heap.size ∧ w8.cell? ⟨w6.heap.size, 0, none⟩ = some (.int .i64 1) ∧ w8.cell? ⟨w6.heap.size, 1, none⟩ = some (.int .i64 (-3)) ∧ w8.cell? ⟨w6.heap.size, 2, none⟩ = some (.string ⟨#[]⟩) ∧ Below w.heap.size w w8 := (by first | exact keepA hb hS | exact keepA hb hS0)) | (go_at_call 25; refine (lnumber_any _ _).mono ?_; rintro e w9 ⟨rfl, hb⟩; have hS : wA.heap.size < w9.heap.size ∧ w9.cell? ⟨wA.heap.size, 0, none⟩ = some (.int .i64 2) ∧ w9.cell? ⟨wA.heap.size, 1, none⟩ = some (.int .i64 0) ∧ w9.cell? ⟨wA.heap.size, 2, none⟩ = some (.string ⟨#[]⟩) ∧ w6.heap.size < w9.heap.size ∧ w9.cell? ⟨w6.heap.size, 0, none⟩ = some (.int .i64 1) ∧ w9.cell? ⟨w6.heap.size, 1, none⟩ = some (.int .i64 (-3)) ∧ w9.cell? ⟨w6.heap.size, 2, none⟩ = some (.string ⟨#[]⟩) ∧ Below w.heap.size w w9 := (by first | exact keepA hb hS | exact keepA hb hS0))) | fail
  go_wp2
  go_ret
  exact ⟨rfl, hS.2.2.2.2.2.2.2.2⟩

end Go.Proofs.Ythcipdhfolikaaa
