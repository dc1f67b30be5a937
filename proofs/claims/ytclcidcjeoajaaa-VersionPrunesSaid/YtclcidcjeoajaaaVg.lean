/- See of package version over any chain: the walk. Conditions: a chain that is read in memory. -/
import Derived.Test.YtclcidcjeoajaaaVf
namespace Go.Proofs.Ytclcidcjeoajaaa
open Go.RowKit Go.Sort
set_option linter.unusedSimpArgs false
set_option linter.unusedVariables false

@[reducible] def SeeV (s : ByteArray) (b : Bool) (t e : Int) : Value := .tuple #[.string s, .bool b, .int .i64 t, .int .i64 e]
set_option maxHeartbeats 4000000 in
theorem see_bad (A : Option Addr) (n c : Nat) (l : List Ver) (m x : Int) (w : World) (hr : Rd w A n c l) (h : ¬ Ok l) :
    Calls Try.prog 11 #[.slice A n c, .int .i64 m, .int .i64 x] w fun e w' => e = .returned (SeeV ⟨#[]⟩ false 0 9) ∧ Below w.heap.size w w' := by
  have HC := Lib.hid fun W (hb : Below w.heap.size w W) => check_any A n c l W (hr.below hb) 9 (.inr ⟨h, rfl⟩)
  clear hr h
  go_enter Try.func11, Try.ntmps11
  go_wp2_with (go_at_call 10; (with_reducible refine (HC.out _ (below1 _ _)).mono ?_); rintro e w1 ⟨rfl, hb1⟩)
  exact bodyPost_ret (v := SeeV ⟨#[]⟩ false 0 9) (by simp [results, Try.results11, go_sem]) rfl ⟨rfl, thn (below1 _ _) hb1⟩
theorem idx_cases (p : Ver → Bool) (l : List Ver) : (idx p l = -1 ∧ l.find? p = none) ∨ ∃ k, ∃ h : k < l.length, idx p l = k ∧ l.find? p = some l[k] := by
  by_cases h : l.findIdx p < l.length
  · exact .inr ⟨l.findIdx p, h, by unfold idx; rw [if_pos h], find_at h⟩
  · refine .inl ⟨by unfold idx; rw [if_neg h], ?_⟩
    rw [List.find?_eq_none]
    intro v hv
    obtain ⟨j, hj, rfl⟩ := List.getElem_of_mem hv
    have := List.not_of_lt_findIdx (p := p) (xs := l) (i := j) (by omega)
    simpa using this
theorem caps_new (W : World) (m x : Int) (p : Addr) (hp : W.cell? p = some (.int .i64 x)) : Caps ((W.alloc (.cells #[.int .i64 m] 3)).alloc (.cells #[.func (.func 29) #[] #[.pointer (some ⟨W.heap.size, 0, none⟩)]] 43)) m x p ⟨W.heap.size + 1, 0, none⟩ ⟨W.heap.size, 0, none⟩ := by
  refine ⟨cell_keep hp (below2 _ _ _), ?_, ?_⟩
  · rw [cell_last _ _ _ _ _ (by simp)]; rfl
  · exact cell_keep ((cell_last W #[.int .i64 m] 3 W.heap.size 0 rfl).trans rfl) (below1 _ _)
set_option maxHeartbeats 4000000 in
theorem see_good (A : Option Addr) (n c : Nat) (l : List Ver) (m x : Int) (w : World) (hr : Rd w A n c l) (h : Ok l) :
    Calls Try.prog 11 #[.slice A n c, .int .i64 m, .int .i64 x] w fun e w' => e = .returned (SeeV (txt (seeB m x) l) (isB (seeB m x) l) (stp (seeB m x) l) 0) ∧ Below w.heap.size w w' := by
  have HC := Lib.hid fun W (hb : Below w.heap.size w W) => check_any A n c l W (hr.below hb) 0 (.inl ⟨h, rfl⟩)
  have HO := Lib.hid fun W => committedBy_any m W
  have HI := Lib.hid fun p f q W (hb : Below w.heap.size w W) (hc : Caps W m x p f q) => index_see m x p f q A n c l W (hr.below hb) hc
  have HR := Lib.hid hr
  have hlen := hr.len
  have hcap := hr.cap
  have hle := hr.le
  clear hr h
  have HT : Hid (txt (seeB m x) l = match l.find? (seeB m x) with | none => ⟨#[]⟩ | some v => v.v) := Lib.hid rfl
  have HB : Hid (isB (seeB m x) l = match l.find? (seeB m x) with | none => false | some v => !v.g) := Lib.hid rfl
  have HS : Hid (stp (seeB m x) l = match l.find? (seeB m x) with | none => 0 | some v => v.t) := Lib.hid rfl
  rcases idx_cases (seeB m x) l with ⟨h1, h2⟩ | ⟨k, hk, h1, h2⟩
  · rw [h2] at HT HB HS
    simp only [] at HT HB HS
    rw [h1] at HI
    clear h1 h2
    have HW1 := Lib.hid (below1 w (.cells #[.int .i64 x] 3))
    have hx := cell_last w #[.int .i64 x] 3 w.heap.size 0 rfl
    have HX := Lib.hid hx
    clear hx
    go_enter Try.func11, Try.ntmps11
    go_upto_region 1 with fail
    generalize w.alloc (.cells #[.int .i64 x] 3) = w1 at HW1 HX ⊢
    go_upto_region 4 with (go_at_call 10; (with_reducible refine (HC.out _ HW1.out).mono ?_); rintro e w2 ⟨rfl, hb1⟩; have HW2 := Lib.hid (thn HW1.out hb1); have HX2 := Lib.hid (cell_keep HX.out hb1); clear hb1)
    go_upto_region 5 with (go_at_call 17; (with_reducible refine (HO.out _).mono ?_); rintro e w3 ⟨rfl, rfl⟩)
    have hcp := caps_new w2 m x ⟨w.heap.size, 0, none⟩ HX2.out
    have hb3 := thn HW2.out (below2 w2 (.cells #[.int .i64 m] 3) (.cells #[.func (.func 29) #[] #[.pointer (some ⟨w2.heap.size, 0, none⟩)]] 43))
    generalize hq : (⟨w2.heap.size, 0, none⟩ : Addr) = q at hcp hb3 ⊢
    generalize hf : (⟨w2.heap.size + 1, 0, none⟩ : Addr) = f at hcp ⊢
    generalize (w2.alloc (.cells #[.int .i64 m] 3)).alloc (.cells #[.func (.func 29) #[] #[.pointer (some q)]] 43) = w3 at hcp hb3 ⊢
    clear hq hf
    have HCP := Lib.hid hcp
    have HW3 := Lib.hid hb3
    clear hcp hb3
    go_wp2_with (go_at_call 16; (with_reducible refine (HI.out _ _ _ _ HW3.out HCP.out).mono ?_); rintro e w4 ⟨rfl, hb4⟩)
    exact bodyPost_ret (v := SeeV (txt (seeB m x) l) (isB (seeB m x) l) (stp (seeB m x) l) 0) (by simp [results, Try.results11, go_sem, HT.out, HB.out, HS.out]) rfl ⟨rfl, thn HW3.out hb4⟩
  · rw [h2] at HT HB HS
    simp only [] at HT HB HS
    rw [h1] at HI
    clear h1 h2
    rw [HT.out, HB.out, HS.out]
    clear HT HB HS
    have HK := Lib.hid fun W (hb : Below w.heap.size w W) => (HR.out.below hb).at_ hk
    have HCL := Lib.hid fun W => sClone_any l[k].v W l[k].h
    generalize l[k] = v at *
    have HW1 := Lib.hid (below1 w (.cells #[.int .i64 x] 3))
    have hx := cell_last w #[.int .i64 x] 3 w.heap.size 0 rfl
    have HX := Lib.hid hx
    clear hx
    go_enter Try.func11, Try.ntmps11
    go_upto_region 1 with fail
    generalize w.alloc (.cells #[.int .i64 x] 3) = w1 at HW1 HX ⊢
    go_upto_region 4 with (go_at_call 10; (with_reducible refine (HC.out _ HW1.out).mono ?_); rintro e w2 ⟨rfl, hb1⟩; have HW2 := Lib.hid (thn HW1.out hb1); have HX2 := Lib.hid (cell_keep HX.out hb1); clear hb1)
    go_upto_region 5 with (go_at_call 17; (with_reducible refine (HO.out _).mono ?_); rintro e w3 ⟨rfl, rfl⟩)
    have hcp := caps_new w2 m x ⟨w.heap.size, 0, none⟩ HX2.out
    have hb3 := thn HW2.out (below2 w2 (.cells #[.int .i64 m] 3) (.cells #[.func (.func 29) #[] #[.pointer (some ⟨w2.heap.size, 0, none⟩)]] 43))
    generalize hq : (⟨w2.heap.size, 0, none⟩ : Addr) = q at hcp hb3 ⊢
    generalize hf : (⟨w2.heap.size + 1, 0, none⟩ : Addr) = f at hcp ⊢
    generalize (w2.alloc (.cells #[.int .i64 m] 3)).alloc (.cells #[.func (.func 29) #[] #[.pointer (some q)]] 43) = w3 at hcp hb3 ⊢
    clear hq hf
    have HCP := Lib.hid hcp
    have HW3 := Lib.hid hb3
    clear hcp hb3
    go_upto_region 8 with (go_at_call 16; (with_reducible refine (HI.out _ _ _ _ HW3.out HCP.out).mono ?_); rintro e w4 ⟨rfl, hb4⟩; have HW4 := Lib.hid (thn HW3.out hb4); clear hb4)
    obtain ⟨ad, rfl, c0, c1, c2, c3⟩ := HK.out _ HW4.out
    have q0 := cell_regrown c0
    have q1 := cell_regrown c1
    have q2 := cell_regrown c2
    have q3 := cell_regrown c3
    have hk0 : (0 : Int) ≤ (k : Int) := by omega
    have hk1 : (k : Int) < (n : Int) := by omega
    clear c0 c1 c2 c3
    refine wp_region_quiet_below (by kernel_rfl) (by kernel_rfl) ?_
    repeat (go_big_quiet_step (with_reducible exact Calls.regrown_of (HCL.out _)))
    refine wpQuiet_nil ?_
    intro w5 hw5
    obtain ⟨pp, rfl⟩ := hw5
    have HB5 := Lib.hid (thn HW4.out (below_regrown w4 pp.d pp.os))
    clear q0 q1 q2 q3
    generalize grow (redrawn w4 pp.d) pp.os = W5 at HB5 ⊢
    go_wp2
    exact bodyPost_ret (v := SeeV v.v (!v.g) v.t 0) (by simp [results, Try.results11, go_sem]) rfl ⟨rfl, HB5.out⟩
end Go.Proofs.Ytclcidcjeoajaaa
