/- What Neg, reckonTruth and Reckon of package value answer for any values: the walks. Conditions: numbers of 64 bits. -/
import Derived.Test.YthcipdhfolikaaaVe
import Derived.Test.YthcipdhfolikaaaVl
import Derived.RegionTactic
import Derived.Deep.RegionWith
namespace Go.Proofs.Ythcipdhfolikaaa
open Go.RowKit
set_option linter.unusedSimpArgs false
set_option linter.unusedVariables false

def empt : ByteArray := ⟨#[]⟩
def negK (k n : Int) (s : ByteArray) : Int := rkK 5 1 0 ⟨#[]⟩ k n s
def negN (k n : Int) (s : ByteArray) : Int := rkN 5 1 0 ⟨#[]⟩ k n s
def negE (k n : Int) (s : ByteArray) : Int := rkE 5 1 0 ⟨#[]⟩ k n s

set_option maxHeartbeats 1000000 in
theorem neg_any (k n : Int) (s : ByteArray) (w : World) (ha : Hid (inR n = true)) :
    Calls Try.prog 20 #[.agg #[.int .i64 k, .int .i64 n, .string s]] w fun e w' => e = .returned (.tuple #[.agg #[.int .i64 (negK k n s), .int .i64 (negN k n s), .string ⟨#[]⟩], .int .i64 (negE k n s)]) ∧ Below w.heap.size w w' := by
  have h0 : Hid (inR 0 = true) := by show inR 0 = true; decide +kernel
  go_enter Try.func20, Try.ntmps20
  go_wp2_with fail
  first | (go_region_with (first | (go_at_call 37; refine (number_any _ _).mono ?_; rintro e w1 ⟨rfl, hb1⟩; obtain ⟨hc, hf⟩ := bcell hb1; have z1 := hb1.size; simp at z1) | (go_at_call 32; refine (reckonNumber_5 _ _ _ _ _ _ _ h0 ha).mono ?_; rintro e w2 ⟨rfl, hb2⟩; obtain ⟨hc2, hf2⟩ := bcell hb2; have q02 := fun o => hc2 (w.heap.size) o (by omega); have q12 := fun o => hc2 (w.heap.size + 1) o (by omega); have r22 := fun o => hf2 (w.heap.size + 1) o (by omega); clear hc2 hf2; have z2 := hb2.size))) | fail
  all_goals
    go_wp2
    exact bodyPost_ret (v := .tuple #[.agg #[.int .i64 (rkK 5 1 0 ⟨#[]⟩ k n s), .int .i64 (rkN 5 1 0 ⟨#[]⟩ k n s), .string ⟨#[]⟩], .int .i64 (rkE 5 1 0 ⟨#[]⟩ k n s)]) (by simp [results, Try.results20, go_sem, q12, hc]) rfl ⟨ret_val rfl rfl rfl, by repeat (first | exact Below.refl _ _ | (refine Below.setCell ?_ (by first | omega | (simp; done) | (simp; omega)) _) | (refine Below.alloc ?_ (by first | omega | (simp; done) | (simp; omega)) _) | (refine below_drewN ?_ _) | (refine Below.drew ?_) | (refine below_call hb2 (by first | omega | (simp; done) | (simp; omega)) ?_) | (refine below_call hb1 (by first | omega | (simp; done) | (simp; omega)) ?_))⟩

/-- What reckonTruth answers: the Kind, the number, the error. -/
def rtK (k n : Int) (s : ByteArray) (k' n' : Int) (s' : ByteArray) : Int := if cmpKnown k n s k' n' s' = true then 2 else 0
def rtN (op : Int) (k n : Int) (s : ByteArray) (k' n' : Int) (s' : ByteArray) : Int := if cmpKnown k n s k' n' s' = true then b2i (holdsB op (cmpC k n s k' n' s')) else 0
theorem ordI_bd (a b : Int) : -1 ≤ ordI a b ∧ ordI a b ≤ 1 := by unfold ordI; split <;> (try split) <;> omega
theorem ordS_bd (a b : ByteArray) : -1 ≤ ordS a b ∧ ordS a b ≤ 1 := by unfold ordS; split <;> (try split) <;> omega
theorem cmpC_bd (k n : Int) (s : ByteArray) (k' n' : Int) (s' : ByteArray) : -1 ≤ cmpC k n s k' n' s' ∧ cmpC k n s k' n' s' ≤ 1 := by
  have h1 := ordI_bd k k'
  have h2 := ordI_bd n n'
  have h3 := ordS_bd s s'
  unfold cmpC ordV
  split <;> (try split) <;> (try split) <;> (try split) <;> omega

theorem holds_bd (op c : Int) (h1 : 8 ≤ op) (h2 : op ≤ 13) (h3 : -1 ≤ c) (h4 : c ≤ 1) (w : World) :
    Calls Try.prog 44 #[.int .i64 op, .int .i64 c] w fun e w' => e = .returned (.bool (holdsB op c)) ∧ Below w.heap.size w w' :=
  holds_any op c (by omega) (by omega) w

set_option maxHeartbeats 1000000 in
theorem reckonTruth_any (op : Int) (k n : Int) (s : ByteArray) (k' n' : Int) (s' : ByteArray) (w : World) (h1 : Hid (8 ≤ op)) (h2 : Hid (op ≤ 13)) :
    Calls Try.prog 33 #[.int .i64 op, .agg #[.int .i64 k, .int .i64 n, .string s], .agg #[.int .i64 k', .int .i64 n', .string s']] w fun e w' => e = .returned (.tuple #[.agg #[.int .i64 (rtK k n s k' n' s'), .int .i64 (rtN op k n s k' n' s'), .string ⟨#[]⟩], .int .i64 (cmpE k n s k' n' s')]) ∧ Below w.heap.size w w' := by
  have hbd : Hid (-1 ≤ cmpC k n s k' n' s' ∧ cmpC k n s k' n' s' ≤ 1) := cmpC_bd k n s k' n' s'
  go_enter Try.func33, Try.ntmps33
  go_wp2_with (first | (go_at_call 10; refine (compare_any _ _ _ _ _ _ _).mono ?_; rintro e w1 ⟨rfl, hb1⟩; obtain ⟨hc, hf⟩ := bcell hb1; have z1 := hb1.size; simp only [World.size_alloc] at z1) | (go_at_call 39; refine (null_any _).mono ?_; rintro e w2 ⟨rfl, hb2⟩; obtain ⟨hc2, hf2⟩ := bcell hb2; have q02 := fun o => hc2 (w.heap.size) o (by omega); have q12 := fun o => hc2 (w.heap.size + 1) o (by omega); have q22 := fun o => hc2 (w.heap.size + 1 + 1) o (by omega); have r22 := fun o => hf2 (w.heap.size + 1 + 1) o (by omega); clear hc2 hf2; have z2 := hb2.size) | (go_at_call 44; refine (holds_bd _ _ h1.out h2.out hbd.out.1 hbd.out.2 _).mono ?_; rintro e w3 ⟨rfl, hb3⟩; obtain ⟨hc3, hf3⟩ := bcell hb3; have q03 := fun o => hc3 (w.heap.size) o (by omega); have q13 := fun o => hc3 (w.heap.size + 1) o (by omega); have q23 := fun o => hc3 (w.heap.size + 1 + 1) o (by omega); have r23 := fun o => hf3 (w.heap.size + 1 + 1) o (by omega); clear hc3 hf3; have z3 := hb3.size) | (go_at_call 40; refine (truth_any _ _).mono ?_; rintro e w4 ⟨rfl, hb4⟩; obtain ⟨hc4, hf4⟩ := bcell hb4; have q04 := fun o => hc4 (w.heap.size) o (by omega); have q14 := fun o => hc4 (w.heap.size + 1) o (by omega); have q24 := fun o => hc4 (w.heap.size + 1 + 1) o (by omega); have r24 := fun o => hf4 (w.heap.size + 1 + 1) o (by omega); clear hc4 hf4; have z4 := hb4.size))
  · exact bodyPost_ret (v := .tuple #[.agg #[.int .i64 0, .int .i64 0, .string ⟨#[]⟩], .int .i64 (cmpE k n s k' n' s')]) (by simp [results, Try.results33, go_sem, hc]) rfl ⟨ret_val (by grind [rtK, cmpKnown, cmpE]) (by grind [rtN, cmpKnown, cmpE]) (by grind), by repeat (first | exact Below.refl _ _ | (refine Below.setCell ?_ (by first | omega | (simp; done) | (simp; omega)) _) | (refine Below.alloc ?_ (by first | omega | (simp; done) | (simp; omega)) _) | (refine below_drewN ?_ _) | (refine Below.drew ?_) | (refine below_call hb1 (by first | omega | (simp; done) | (simp; omega)) ?_))⟩
  · exact bodyPost_ret (v := .tuple #[.agg #[.int .i64 0, .int .i64 0, .string ⟨#[]⟩], .int .i64 0]) (by simp [results, Try.results33, go_sem, q22, hc]) rfl ⟨ret_val (by grind [rtK, cmpKnown, cmpE]) (by grind [rtN, cmpKnown, cmpE]) (by grind), by repeat (first | exact Below.refl _ _ | (refine Below.setCell ?_ (by first | omega | (simp; done) | (simp; omega)) _) | (refine Below.alloc ?_ (by first | omega | (simp; done) | (simp; omega)) _) | (refine below_drewN ?_ _) | (refine Below.drew ?_) | (refine below_call hb2 (by first | omega | (simp; done) | (simp; omega)) ?_) | (refine below_call hb1 (by first | omega | (simp; done) | (simp; omega)) ?_))⟩
  · exact bodyPost_ret (v := .tuple #[.agg #[.int .i64 2, .int .i64 (b2i (holdsB op (cmpC k n s k' n' s'))), .string ⟨#[]⟩], .int .i64 0]) (by simp [results, Try.results33, go_sem, q24, q23, hc]) rfl ⟨ret_val (by grind [rtK, cmpKnown, cmpE]) (by grind [rtN, cmpKnown, cmpE]) (by grind), by repeat (first | exact Below.refl _ _ | (refine Below.setCell ?_ (by first | omega | (simp; done) | (simp; omega)) _) | (refine Below.alloc ?_ (by first | omega | (simp; done) | (simp; omega)) _) | (refine below_drewN ?_ _) | (refine Below.drew ?_) | (refine below_call hb4 (by first | omega | (simp; done) | (simp; omega)) ?_) | (refine below_call hb3 (by first | omega | (simp; done) | (simp; omega)) ?_) | (refine below_call hb1 (by first | omega | (simp; done) | (simp; omega)) ?_))⟩

end Go.Proofs.Ythcipdhfolikaaa
