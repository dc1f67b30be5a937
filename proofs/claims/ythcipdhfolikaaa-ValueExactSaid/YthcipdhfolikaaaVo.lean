/- What Reckon of package value answers for any op and any values: the walks. Conditions: numbers of 64 bits. -/
import Derived.Test.YthcipdhfolikaaaVm
import Derived.Test.YthcipdhfolikaaaVh
namespace Go.Proofs.Ythcipdhfolikaaa
open Go.RowKit
set_option linter.unusedSimpArgs false
set_option linter.unusedVariables false

/-- What Reckon answers: the Kind, the number, the error. -/
def recK (op : Int) (k n : Int) (s : ByteArray) (k' n' : Int) (s' : ByteArray) : Int := if op < 4 ∨ 13 < op then 0 else if op < 8 then rkK op k n s k' n' s' else rtK k n s k' n' s'
def recN (op : Int) (k n : Int) (s : ByteArray) (k' n' : Int) (s' : ByteArray) : Int := if op < 4 ∨ 13 < op then 0 else if op < 8 then rkN op k n s k' n' s' else rtN op k n s k' n' s'
def recE (op : Int) (k n : Int) (s : ByteArray) (k' n' : Int) (s' : ByteArray) : Int := if op < 4 ∨ 13 < op then 1 else if op < 8 then rkE op k n s k' n' s' else cmpE k n s k' n' s'
theorem reckonNumber_any (op : Int) (k n : Int) (s : ByteArray) (k' n' : Int) (s' : ByteArray) (w : World) (h1 : 4 ≤ op) (h2 : op < 8) (ha : inR n = true) (hb : inR n' = true) :
    Calls Try.prog 32 #[.int .i64 op, .agg #[.int .i64 k, .int .i64 n, .string s], .agg #[.int .i64 k', .int .i64 n', .string s']] w fun e w' => e = .returned (.tuple #[.agg #[.int .i64 (rkK op k n s k' n' s'), .int .i64 (rkN op k n s k' n' s'), .string ⟨#[]⟩], .int .i64 (rkE op k n s k' n' s')]) ∧ Below w.heap.size w w' := by
  have h : op = 4 ∨ op = 5 ∨ op = 6 ∨ op = 7 := by omega
  rcases h with rfl | rfl | rfl | rfl
  · exact reckonNumber_4 k n s k' n' s' w ha hb
  · exact reckonNumber_5 k n s k' n' s' w ha hb
  · exact reckonNumber_6 k n s k' n' s' w ha hb
  · exact reckonNumber_7 k n s k' n' s' w ha

set_option maxHeartbeats 1000000 in
theorem reckon_none (op : Int) (k n : Int) (s : ByteArray) (k' n' : Int) (s' : ByteArray) (w : World) (h : op < 4 ∨ 13 < op) :
    Calls Try.prog 18 #[.int .i64 op, .agg #[.int .i64 k, .int .i64 n, .string s], .agg #[.int .i64 k', .int .i64 n', .string s']] w fun e w' => e = .returned (.tuple #[.agg #[.int .i64 0, .int .i64 0, .string ⟨#[]⟩], .int .i64 1]) ∧ Below w.heap.size w w' := by
  rcases h with h | h
  all_goals
    go_enter Try.func18, Try.ntmps18
    go_wp2
    exact bodyPost_ret (v := .tuple #[.agg #[.int .i64 0, .int .i64 0, .string ⟨#[]⟩], .int .i64 1]) (by simp [results, Try.results18, go_sem]) rfl ⟨rfl, by repeat (first | exact Below.refl _ _ | (refine Below.setCell ?_ (by first | omega | (simp; done) | (simp; omega)) _) | (refine Below.alloc ?_ (by first | omega | (simp; done) | (simp; omega)) _) | (refine below_drewN ?_ _) | (refine Below.drew ?_))⟩

set_option maxHeartbeats 1000000 in
theorem reckon_num (op : Int) (k n : Int) (s : ByteArray) (k' n' : Int) (s' : ByteArray) (w : World) (h1 : 4 ≤ op) (h2 : op ≤ 7) (ha : Hid (inR n = true)) (hb : Hid (inR n' = true)) :
    Calls Try.prog 18 #[.int .i64 op, .agg #[.int .i64 k, .int .i64 n, .string s], .agg #[.int .i64 k', .int .i64 n', .string s']] w fun e w' => e = .returned (.tuple #[.agg #[.int .i64 (rkK op k n s k' n' s'), .int .i64 (rkN op k n s k' n' s'), .string ⟨#[]⟩], .int .i64 (rkE op k n s k' n' s')]) ∧ Below w.heap.size w w' := by
  go_enter Try.func18, Try.ntmps18
  go_wp2_with (go_at_call 32; refine (reckonNumber_any _ _ _ _ _ _ _ _ (by omega) (by omega) ha.out hb.out).mono ?_; rintro e w1 ⟨rfl, hb1⟩; obtain ⟨hc, hf⟩ := bcell hb1; have z1 := hb1.size; simp only [World.size_alloc] at z1)
  exact bodyPost_ret (v := .tuple #[.agg #[.int .i64 (rkK op k n s k' n' s'), .int .i64 (rkN op k n s k' n' s'), .string ⟨#[]⟩], .int .i64 (rkE op k n s k' n' s')]) (by simp [results, Try.results18, go_sem, hc]) rfl ⟨rfl, by repeat (first | exact Below.refl _ _ | (refine Below.setCell ?_ (by first | omega | (simp; done) | (simp; omega)) _) | (refine Below.alloc ?_ (by first | omega | (simp; done) | (simp; omega)) _) | (refine below_drewN ?_ _) | (refine Below.drew ?_) | (refine below_call hb1 (by first | omega | (simp; done) | (simp; omega)) ?_))⟩

set_option maxHeartbeats 1000000 in
theorem reckon_truth (op : Int) (k n : Int) (s : ByteArray) (k' n' : Int) (s' : ByteArray) (w : World) (h1 : 8 ≤ op) (h2 : op ≤ 13) :
    Calls Try.prog 18 #[.int .i64 op, .agg #[.int .i64 k, .int .i64 n, .string s], .agg #[.int .i64 k', .int .i64 n', .string s']] w fun e w' => e = .returned (.tuple #[.agg #[.int .i64 (rtK k n s k' n' s'), .int .i64 (rtN op k n s k' n' s'), .string ⟨#[]⟩], .int .i64 (cmpE k n s k' n' s')]) ∧ Below w.heap.size w w' := by
  have hl : Hid (8 ≤ op) := h1
  have hg : Hid (op ≤ 13) := h2
  go_enter Try.func18, Try.ntmps18
  go_wp2_with (go_at_call 33; refine (reckonTruth_any _ _ _ _ _ _ _ _ hl hg).mono ?_; rintro e w1 ⟨rfl, hb1⟩; obtain ⟨hc, hf⟩ := bcell hb1; have z1 := hb1.size; simp only [World.size_alloc] at z1)
  exact bodyPost_ret (v := .tuple #[.agg #[.int .i64 (rtK k n s k' n' s'), .int .i64 (rtN op k n s k' n' s'), .string ⟨#[]⟩], .int .i64 (cmpE k n s k' n' s')]) (by simp [results, Try.results18, go_sem, hc]) rfl ⟨rfl, by repeat (first | exact Below.refl _ _ | (refine Below.setCell ?_ (by first | omega | (simp; done) | (simp; omega)) _) | (refine Below.alloc ?_ (by first | omega | (simp; done) | (simp; omega)) _) | (refine below_drewN ?_ _) | (refine Below.drew ?_) | (refine below_call hb1 (by first | omega | (simp; done) | (simp; omega)) ?_))⟩

theorem reckon_any (op : Int) (k n : Int) (s : ByteArray) (k' n' : Int) (s' : ByteArray) (w : World) (ha : inR n = true) (hb : inR n' = true) :
    Calls Try.prog 18 #[.int .i64 op, .agg #[.int .i64 k, .int .i64 n, .string s], .agg #[.int .i64 k', .int .i64 n', .string s']] w fun e w' => e = .returned (.tuple #[.agg #[.int .i64 (recK op k n s k' n' s'), .int .i64 (recN op k n s k' n' s'), .string ⟨#[]⟩], .int .i64 (recE op k n s k' n' s')]) ∧ Below w.heap.size w w' := by
  by_cases h : op < 4 ∨ 13 < op
  · simp only [recK, recN, recE, if_pos h]
    exact reckon_none op k n s k' n' s' w h
  · by_cases h8 : op < 8
    · simp only [recK, recN, recE, if_neg h, if_pos h8]
      exact reckon_num op k n s k' n' s' w (by omega) (by omega) ha hb
    · simp only [recK, recN, recE, if_neg h, if_neg h8]
      exact reckon_truth op k n s k' n' s' w (by omega) (by omega)

/-- alive: the page's examples stand. -/
theorem alive_1 : recE 4 1 9223372036854775807 ⟨#[]⟩ 1 1 ⟨#[]⟩ = 84 := by decide +kernel
theorem alive_2 : decK false 0 0 ⟨#[]⟩ 2 0 ⟨#[]⟩ = 2 ∧ decN false 0 0 ⟨#[]⟩ 2 0 ⟨#[]⟩ = 0 ∧ decE 0 0 ⟨#[]⟩ 2 0 ⟨#[]⟩ = 0 := by decide +kernel
theorem alive_3 : recK 7 1 (-7) ⟨#[]⟩ 1 2 ⟨#[]⟩ = 1 ∧ recN 7 1 (-7) ⟨#[]⟩ 1 2 ⟨#[]⟩ = -3 ∧ recE 7 1 (-7) ⟨#[]⟩ 1 2 ⟨#[]⟩ = 0 := by decide +kernel

end Go.Proofs.Ythcipdhfolikaaa
