/- Eval of package eval where the first Arg decides; alive of the statements' package is true: the walks. Conditions: none. -/
import Derived.Test.YtjogpcffldkhlaaEg
namespace Go.Proofs.Ytjogpcffldkhlaa
open Go.RowKit Go.Sort
set_option linter.unusedSimpArgs false
set_option linter.unusedVariables false

set_option maxHeartbeats 2000000 in
theorem eval_short (b : Bool) (O B : Int) (hO : O = 14 + b2i b) (hB : B = b2i b) (k n : Int) (s t m : ByteArray) (p c : Nat) (w : World) (rA : Option Addr) (rn rc : Nat)
    (c0 : w.cell? ⟨p, 0, none⟩ = some (.int .i64 0)) (c1 : w.cell? ⟨p, 1, none⟩ = some (.int .i64 2)) (c2 : w.cell? ⟨p, 2, none⟩ = some (.int .i64 B)) (c3 : w.cell? ⟨p, 3, none⟩ = some (.string ⟨#[]⟩)) (c4 : w.cell? ⟨p, 4, none⟩ = some (.string ⟨#[]⟩)) (c5 : w.cell? ⟨p, 5, none⟩ = some (.string ⟨#[]⟩)) (c6 : w.cell? ⟨p, 6, none⟩ = some (.slice none 0 0)) :
    Calls Try.prog 6 #[.agg #[.int .i64 O, .int .i64 k, .int .i64 n, .string s, .string t, .string m, .slice (some ⟨p, 0, none⟩) 2 c], .slice rA rn rc] w fun e w' => e = .returned (.tuple #[.agg #[.int .i64 2, .int .i64 B, .string ⟨#[]⟩], .int .i64 0]) ∧ Below w.heap.size w w' := by
  have hp := cell_lt c0
  have hpart : ∀ W, Below w.heap.size w W → Calls Try.prog 11 #[.agg #[.slice rA rn rc], .agg #[.int .i64 O, .int .i64 k, .int .i64 n, .string s, .string t, .string m, .slice (some ⟨p, 0, none⟩) 2 c], .int .i64 1] W fun e w' => e = .returned (.tuple #[.agg #[.int .i64 2, .int .i64 B, .string ⟨#[]⟩], .int .i64 0]) ∧ Below W.heap.size W w' := fun W hb =>
    part_short b O B hO hB k n s t m p c W rA rn rc ((hb.cell (p := ⟨p, 0, none⟩) hp).trans c0) ((hb.cell (p := ⟨p, 1, none⟩) hp).trans c1) ((hb.cell (p := ⟨p, 2, none⟩) hp).trans c2) ((hb.cell (p := ⟨p, 3, none⟩) hp).trans c3) ((hb.cell (p := ⟨p, 4, none⟩) hp).trans c4) ((hb.cell (p := ⟨p, 5, none⟩) hp).trans c5) ((hb.cell (p := ⟨p, 6, none⟩) hp).trans c6)
  have hfresh : ∀ W, Calls Try.prog 12 #[.agg #[.int .i64 2, .int .i64 B, .string ⟨#[]⟩]] W fun e w' => e = .returned (.agg #[.int .i64 2, .int .i64 B, .string ⟨#[]⟩]) ∧ Below W.heap.size W w' := by
    subst hB
    exact fun W => fresh_any (T b) W
  clear c0 c1 c2 c3 c4 c5 c6 hO hB hp
  go_enter Try.func6, Try.ntmps6
  go_wp2_with (first | (go_at_call 11; refine (hpart _ (below2 _ _ _)).mono ?_; rintro e w1 ⟨rfl, hb⟩; have HR := Lib.hid ((Row.new (w.alloc (.cells #[.int .i64 O, .int .i64 k, .int .i64 n, .string s, .string t, .string m, .slice (some ⟨p, 0, none⟩) 2 c] 26)) zeroV 23 (w.heap.size + 1) (by simp)).below hb); have HB := Lib.hid ((below2 _ _ _).trans (hb.mono (by simp; omega))); have z1 := hb.size; simp only [World.size_alloc] at z1; clear hb) | (go_at_call 12; refine (hfresh _).mono ?_; rintro e w2 ⟨rfl, hb⟩; obtain ⟨s0, s1, s2, f0, f1, f2⟩ := ((HR.out.below (below1 _ (.cells #[.int .i64 2, .int .i64 B, .string ⟨#[]⟩] 23))).below hb).one; have HB2 := Lib.hid hb; clear hb))
  exact bodyPost_ret (v := .tuple #[.agg #[.int .i64 2, .int .i64 B, .string ⟨#[]⟩], .int .i64 0]) (by simp [results, Try.results6, go_sem, s0, s1, s2]) rfl ⟨rfl, (HB.out.trans (((below1 _ _).mono HB.out.size).trans (HB2.out.mono (by have := HB.out.size; simp; omega)))).trans ((below_set3 (w.heap.size + 1) w2 2 B ⟨#[]⟩).mono (by omega))⟩

theorem lnum_any (n : Int) (w : World) : Calls Try.prog 7 #[.int .i64 n] w fun e w' => e = .returned (.int .i64 n) ∧ w = w' := by
  go_enter Try.func7, Try.ntmps7
  go_wp2
  go_ret
  exact ⟨rfl, rfl⟩

theorem lnumber_any (n : Int) (w : World) : Calls Try.prog 10 #[.int .i64 n] w fun e w' => e = .returned (.agg #[.int .i64 0, .int .i64 1, .int .i64 n, .string ⟨#[]⟩, .string ⟨#[]⟩, .string ⟨#[]⟩, .slice none 0 0]) ∧ Below w.heap.size w w' := by
  go_enter Try.func10, Try.ntmps10
  go_wp2
  exact bodyPost_ret (v := .agg #[.int .i64 0, .int .i64 1, .int .i64 n, .string ⟨#[]⟩, .string ⟨#[]⟩, .string ⟨#[]⟩, .slice none 0 0]) (by simp [results, Try.results10, go_sem]) rfl ⟨rfl, by repeat (first | exact Below.refl _ _ | (refine Below.setCell ?_ (by first | omega | (simp; done) | (simp; omega)) _) | (refine Below.alloc ?_ (by first | omega | (simp; done) | (simp; omega)) _))⟩

theorem RdL_new (W : World) (l : List Vl) (cs : Array Value) (t : TypeId) (g : Nat) (hg : g = W.heap.size) (h : cs.toList = vals l) : RdL (W.alloc (.cells cs t)) (some ⟨g, 0, none⟩) l := fun _ => ⟨_, rfl, fun j v hj => by
  have hx : ∀ i u, (vals l)[i]? = some u → (W.alloc (.cells cs t)).cell? ⟨g, i, none⟩ = some u := fun i u hu => by
    rw [cell_last _ _ _ _ _ hg, ← hu, ← h]; simp
  rw [add_lit, Nat.zero_add]
  exact ⟨hx _ _ (flat_get l j 0 v hj (by omega)), hx _ _ (flat_get l j 1 v hj (by omega)), hx _ _ (flat_get l j 2 v hj (by omega))⟩⟩
def V2 : Vl := ⟨1, 2, ⟨#[]⟩, by decide +kernel, by decide⟩
def V3 : Vl := ⟨1, 3, ⟨#[]⟩, by decide +kernel, by decide⟩
theorem sum_23 : sumL V0 [V2, V3] = (addV (addV V0 V2) V3, 0) := by
  have e1 : addE V0 V2 = 0 := by decide +kernel
  have e2 : addE (addV V0 V2) V3 = 0 := by decide +kernel
  simp [sumL, e1, e2]
theorem fold_23 (g c : Nat) (w : World) (hr : RdL w (some ⟨g, 0, none⟩) [V2, zeroV, V3]) :
    Calls Try.prog 8 #[.int .i64 20, .slice (some ⟨g, 0, none⟩) 3 c] w fun e w' => e = .returned (.tuple #[.agg #[.int .i64 1, .int .i64 5, .string ⟨#[]⟩], .int .i64 0]) ∧ Below w.heap.size w w' := by
  have h := fold_sum_some (some ⟨g, 0, none⟩) 3 c [V2, zeroV, V3] w rfl hr (fun e => by cases e) (by omega) [V2, V3] (by rfl) (by simp) _ _ sum_23
  have e1 : (addV (addV V0 V2) V3).k = 1 := by decide +kernel
  have e2 : (addV (addV V0 V2) V3).n = 5 := by decide +kernel
  rw [e1, e2] at h
  exact h

set_option maxHeartbeats 2000000 in
theorem alive_any (w : World) : Calls Try.prog 5 #[] w fun e w' => e = .returned (.bool true) ∧ Below w.heap.size w w' := by
  have ha := fun w => lnumber_any 1 w
  have hz := fun w => lnumber_any 0 w
  go_enter Try.func5, Try.ntmps5
  go_upto_region 2 with (first | (go_at_call 10; refine (ha _).mono ?_; rintro e w1 ⟨rfl, hb1⟩; have HB1 := Lib.hid hb1; clear hb1 ha) | (go_at_call 10; refine (hz _).mono ?_; rintro e w2 ⟨rfl, hb2⟩; have HB2 := Lib.hid hb2; clear hb2) | (go_at_call 6; refine (eval_short false 14 0 rfl rfl _ _ _ _ _ _ _ _ _ _ _ (by rw [cell_last _ _ _ _ _ (by simp)]; rfl) (by rw [cell_last _ _ _ _ _ (by simp)]; rfl) (by rw [cell_last _ _ _ _ _ (by simp)]; rfl) (by rw [cell_last _ _ _ _ _ (by simp)]; rfl) (by rw [cell_last _ _ _ _ _ (by simp)]; rfl) (by rw [cell_last _ _ _ _ _ (by simp)]; rfl) (by rw [cell_last _ _ _ _ _ (by simp)]; rfl)).mono ?_; rintro e w3 ⟨rfl, hb3⟩; have HB3 := Lib.hid hb3; clear hb3))
  have hA := (HB1.out.trans (HB2.out.mono HB1.out.size)).trans (((below2 w2 _ _).mono (by have := HB1.out.size; have := HB2.out.size; omega)).trans (HB3.out.mono (by have := HB1.out.size; have := HB2.out.size; simp; omega)))
  have hV := new3 2 0 ⟨#[]⟩ w3
  have hA3 := hA.trans ((below1 w3 (.cells #[.int .i64 2, .int .i64 0, .string ⟨#[]⟩] 23)).mono hA.size)
  generalize w3.alloc (.cells #[.int .i64 2, .int .i64 0, .string ⟨#[]⟩] 23) = W3 at hV hA3 ⊢
  clear hA HB1 HB2 HB3 hz
  have HA := Lib.hid hA3
  clear hA3
  obtain ⟨hz, v0, v1, v2⟩ := hV
  go_upto_region 3 with (go_at_call 8; refine (fold_23 _ _ _ (RdL_new _ _ _ _ _ (by simp) rfl)).mono ?_; rintro e w4 ⟨rfl, hb4⟩; have HB4 := Lib.hid ((below1 _ _).trans (hb4.mono (by simp))); clear hb4; have v0 := (HB4.out.cell (p := ⟨w3.heap.size, 0, none⟩) hz).trans v0; have v1 := (HB4.out.cell (p := ⟨w3.heap.size, 1, none⟩) hz).trans v1; have v2 := (HB4.out.cell (p := ⟨w3.heap.size, 2, none⟩) hz).trans v2; have hz := Nat.lt_of_lt_of_le hz HB4.out.size)
  have hq := run_eqT false
  have hq5 := fun w => run_eqV ⟨1, 5, ⟨#[]⟩, by decide +kernel, by decide⟩ ⟨1, 5, ⟨#[]⟩, by decide +kernel, by decide⟩ w
  have he5 : eqV ⟨1, 5, ⟨#[]⟩, by decide +kernel, by decide⟩ ⟨1, 5, ⟨#[]⟩, by decide +kernel, by decide⟩ = true := eqV_iff.2 rfl
  rw [he5] at hq5
  clear he5
  simp only [b2i, Bool.false_eq_true, if_false] at hq
  have hgv := guardV
  go_wp2_with (go_at_call 7; refine (lnum_any _ _).mono ?_; rintro e w7 ⟨rfl, rfl⟩)
  go_ret
  exact ⟨rfl, (HA.out.trans (HB4.out.mono HA.out.size)).alloc (by have := HA.out.size; have := HB4.out.size; omega) _⟩

end Go.Proofs.Ytjogpcffldkhlaa
