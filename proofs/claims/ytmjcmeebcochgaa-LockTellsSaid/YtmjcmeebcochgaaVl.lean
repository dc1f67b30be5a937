/- Widen of package lock over any state: the walk. Conditions: a state that is read in memory. -/
import Derived.Test.YtmjcmeebcochgaaVk
namespace Go.Proofs.Ytmjcmeebcochgaa
open Go.RowKit Go.Sort Go.Maps
set_option linter.unusedSimpArgs false
set_option linter.unusedVariables false

set_option maxRecDepth 100000 in
set_option maxHeartbeats 8000000 in
theorem widen_bad (A : Option Addr) (n c : Nat) (l : List Lk) (t k : Int) (w : World) (hr : Rd w A n c l) (h : ¬ Ok l) :
    Calls Try.prog 18 #[.agg #[.slice A n c], .int .i64 t, .int .i64 k] w (PairS [] 9 w) := by
  have HF0 := Lib.hid (Frn.new w A n c)
  have HC := Lib.hid fun W (hb : Below w.heap.size w W) => check_any A n c l W (hr.below hb)
  rw [chk_bad h] at HC
  clear hr h
  go_enter Try.func18, Try.ntmps18
  go_upto_region 1 with fail
  generalize (w.alloc (.cells #[.slice A n c] 29)).alloc (.cells #[.slice none 0 0] 29) = W0 at *
  generalize w.heap.size + 1 = gr at *
  have hs := HF0.out.s
  go_upto_region 3 with (go_at_call 22; (with_reducible refine (HC.out _ HF0.out.b).mono ?_); rintro e w1 ⟨rfl, hb⟩; have HF1 := Lib.hid (HF0.out.below hb); clear hb)
  clear hs HF0 HC
  have hr1 := HF1.out.r
  have hf1 := HF1.out.f
  have r0 := set_same (.slice none 0 0) hr1
  go_wp2
  exact bodyPost_ret (v := .tuple #[.agg #[.slice none 0 0], .int .i64 9]) (by simp [results, Try.results18, go_sem, r0]) rfl HF1.out.none_
set_option maxRecDepth 100000 in
set_option maxHeartbeats 8000000 in
theorem widen_range (A : Option Addr) (n c : Nat) (l : List Lk) (t k : Int) (w : World) (hr : Rd w A n c l) (h : Ok l) (hk : k < 1) :
    Calls Try.prog 18 #[.agg #[.slice A n c], .int .i64 t, .int .i64 k] w (PairS [] 4 w) := by
  have HF0 := Lib.hid (Frn.new w A n c)
  have HC := Lib.hid fun W (hb : Below w.heap.size w W) => check_any A n c l W (hr.below hb)
  rw [chk_good h] at HC
  clear hr h
  go_enter Try.func18, Try.ntmps18
  go_upto_region 1 with fail
  generalize (w.alloc (.cells #[.slice A n c] 29)).alloc (.cells #[.slice none 0 0] 29) = W0 at *
  generalize w.heap.size + 1 = gr at *
  have hs := HF0.out.s
  go_upto_region 5 with (go_at_call 22; (with_reducible refine (HC.out _ HF0.out.b).mono ?_); rintro e w1 ⟨rfl, hb⟩; have HF1 := Lib.hid (HF0.out.below hb); clear hb)
  clear hs HF0 HC
  have hr1 := HF1.out.r
  have hf1 := HF1.out.f
  have r0 := set_same (.slice none 0 0) hr1
  go_wp2
  exact bodyPost_ret (v := .tuple #[.agg #[.slice none 0 0], .int .i64 4]) (by simp [results, Try.results18, go_sem, r0]) rfl HF1.out.none_
set_option maxRecDepth 100000 in
set_option maxHeartbeats 8000000 in
theorem widen_few (A : Option Addr) (n c : Nat) (l : List Lk) (t k : Int) (w : World) (hr : Rd w A n c l) (h : Ok l) (hk : 1 ≤ k) (hm : ((l.filter (ownB t)).length : Int) ≤ k) :
    Calls Try.prog 18 #[.agg #[.slice A n c], .int .i64 t, .int .i64 k] w (PairS l 0 w) := by
  have HF0 := Lib.hid (Frn.new w A n c)
  have HC := Lib.hid fun W (hb : Below w.heap.size w W) => check_any A n c l W (hr.below hb)
  rw [chk_good h] at HC
  have HP := Lib.hid fun q W (hb : Below w.heap.size w W) (hc : W.cell? q = some (.int .i64 t)) => parted_use t hr h q W hb hc
  unfold PartX at HP
  have HO := Lib.hid fun W => ownedBy_x t W
  have hk1 : 1 ≤ k := hk
  have HFR := Lib.hid fun W (hb : Below w.heap.size w W) => fresh_any A n c l W (hr.below hb) (by have := h.1; have := hr.len; omega)
  have HLE := Lib.hid (show l.length ≤ 1000000 by have := h.1; omega)
  clear hr h
  generalize l.filter (ownB t) = M at *
  go_enter Try.func18, Try.ntmps18
  go_upto_region 1 with fail
  generalize (w.alloc (.cells #[.slice A n c] 29)).alloc (.cells #[.slice none 0 0] 29) = W0 at *
  generalize w.heap.size + 1 = gr at *
  have hs := HF0.out.s
  go_upto_region 6 with (go_at_call 22; (with_reducible refine (HC.out _ HF0.out.b).mono ?_); rintro e w1 ⟨rfl, hb⟩; have HF1 := Lib.hid (HF0.out.below hb); clear hb)
  clear hs HF0 HC
  have hs := HF1.out.s
  have HSO := Lib.hid fun W' (hb : Below w1.heap.size w1 W') => (show Below w1.heap.size w1 W' ∧ W'.cell? ⟨w.heap.size, 0, none⟩ = some (.slice A n c) from ⟨hb, cell_keep hs hb⟩)
  have hbW := (Below.refl w1.heap.size w1).drew
  clear hs
  go_region_held3 (fun W' => Below w1.heap.size w1 W' ∧ W'.cell? ⟨w.heap.size, 0, none⟩ = some (.slice A n c))
    (first | exact HSO.out _ hbW | exact HSO.out _ hq2)
    (first | (go_at_call 41; (with_reducible refine (HO.out _).mono ?_); rintro e w5 ⟨q, rfl, hqc, hb⟩; have hq2 : Below w1.heap.size w1 w5 := thn (And.left ‹Below w1.heap.size w1 _ ∧ _›) hb; clear hb) | (go_at_call 40; refine (HP.out _ _ (thn HF1.out.b (And.left ‹Below w1.heap.size w1 _ ∧ _›)) hqc).mono ?_; rintro e w6 ⟨m6, o6, rfl, ho6, hb6⟩; have hq2 : Below w1.heap.size w1 w6 := thn (And.left ‹Below w1.heap.size w1 _ ∧ _›) hb6; clear hb6))
  obtain ⟨A6, c6, rfl, hr6⟩ := Rd.of_own (l := M) ho6.m_own
  have HF6 := Lib.hid (HF1.out.below hq2)
  have HR6 := Lib.hid hr6
  have hc6 := hr6.cap
  have hle6 := hr6.le
  clear ho6 hr6 hq2 hbW HSO HF1 hqc
  have hs6 := HF6.out.s
  go_wp2_with (go_at_call 29; (with_reducible refine (HFR.out _ HF6.out.b).mono ?_); rintro e w7 ⟨g, rfl, hrw, hg, hgl, hb⟩; have HF7 := Lib.hid (HF6.out.below hb); have HR7 := Lib.hid (HF6.out.some_ hrw hg hb HLE.out); have hr4 := HF7.out.r; have hf4 := HF7.out.f; have r0 := set_same (.slice (some ⟨g, 0, none⟩) l.length l.length) hr4; clear hrw hg hb)
  exact bodyPost_ret (v := .tuple #[.agg #[.slice (some ⟨g, 0, none⟩) l.length l.length], .int .i64 0]) (by simp [results, Try.results18, go_sem, r0]) rfl HR7.out
theorem asown_use {A : Option Addr} {n c : Nat} {l m : List Lk} {w : World} {x : Lk} {t : Int} (hr : Rd w A n c l) (h : Ok l) (hm : asOne l x (ownB t) = m) {q : Addr} {W : World} (hb : Below w.heap.size w W) (hc : W.cell? q = some (.int .i64 t)) :
    Calls Try.prog 30 #[.slice A n c, .agg #[.int .i64 x.t, .string x.lo.s, .string x.hi.s], .func (.func 52) #[] #[.pointer (some q)]] W (OneX m W) := by
  rw [← hm]
  exact asOne_own t x q A n c l W (hr.below hb) (by have := h.1; have := hr.len; omega) h.2.2 hc
theorem Frn.end_ {w W W' : World} {gs gr g : Nat} {A : Option Addr} {n c : Nat} {l : List Lk} (h : Frn w W gs gr A n c) (hr : Row W' g l) (hg : W.heap.size ≤ g) (hb : Below W.heap.size W W') (hl : l.length ≤ 1000000) : PairS l 0 w (.returned (.tuple #[.agg #[.slice (some ⟨g, 0, none⟩) l.length l.length], .int .i64 0])) (W'.setCell ⟨gr, 0, none⟩ (.slice (some ⟨g, 0, none⟩) l.length l.length)) := h.some_ hr hg hb hl
set_option maxRecDepth 100000 in
set_option maxHeartbeats 8000000 in
theorem widen_wide (A : Option Addr) (n c : Nat) (l : List Lk) (t k : Int) (w : World) (hr : Rd w A n c l) (h : Ok l) (hk : 1 ≤ k) (hm : k < ((l.filter (ownB t)).length : Int)) (m : List Lk) (hmm : widL l t = m) (hlm : m.length ≤ 512) :
    Calls Try.prog 18 #[.agg #[.slice A n c], .int .i64 t, .int .i64 k] w (PairS m 0 w) := by
  have HF0 := Lib.hid (Frn.new w A n c)
  have HC := Lib.hid fun W (hb : Below w.heap.size w W) => check_any A n c l W (hr.below hb)
  rw [chk_good h] at HC
  have HP := Lib.hid fun q W (hb : Below w.heap.size w W) (hc : W.cell? q = some (.int .i64 t)) => parted_use t hr h q W hb hc
  unfold PartX at HP
  have HO := Lib.hid fun W => ownedBy_x t W
  have hk1 : 1 ≤ k := hk
  obtain ⟨x, r, hxr⟩ : ∃ x r, l.filter (ownB t) = x :: r := by
    cases hf : l.filter (ownB t) with
    | nil => rw [hf] at hm; simp at hm; omega
    | cons x r => exact ⟨x, r, rfl⟩
  have hasm : asOne l x (ownB t) = m := by rw [← hmm]; unfold widL; rw [hxr]
  have HA := Lib.hid fun q W (hb : Below w.heap.size w W) (hc : W.cell? q = some (.int .i64 t)) => asown_use hr h hasm hb hc
  have HXR := Lib.hid hxr
  have HLE := Lib.hid (show m.length ≤ 1000000 by omega)
  clear hr h hmm hasm hxr hlm
  generalize l.filter (ownB t) = M at *
  go_enter Try.func18, Try.ntmps18
  go_upto_region 1 with fail
  generalize (w.alloc (.cells #[.slice A n c] 29)).alloc (.cells #[.slice none 0 0] 29) = W0 at *
  generalize hgr : w.heap.size + 1 = gr at *
  have HGR := Lib.hid hgr
  clear hgr
  have hs := HF0.out.s
  go_upto_region 6 with (go_at_call 22; (with_reducible refine (HC.out _ HF0.out.b).mono ?_); rintro e w1 ⟨rfl, hb⟩; have HF1 := Lib.hid (HF0.out.below hb); clear hb)
  clear hs HF0 HC
  have hs := HF1.out.s
  have HSO := Lib.hid fun W' (hb : Below w1.heap.size w1 W') => (show Below w1.heap.size w1 W' ∧ W'.cell? ⟨w.heap.size, 0, none⟩ = some (.slice A n c) from ⟨hb, cell_keep hs hb⟩)
  have hbW := (Below.refl w1.heap.size w1).drew
  clear hs
  go_region_held3 (fun W' => Below w1.heap.size w1 W' ∧ W'.cell? ⟨w.heap.size, 0, none⟩ = some (.slice A n c))
    (first | exact HSO.out _ hbW | exact HSO.out _ hq2)
    (first | (go_at_call 41; (with_reducible refine (HO.out _).mono ?_); rintro e w5 ⟨q, rfl, hqc, hb⟩; have hq2 : Below w1.heap.size w1 w5 := thn (And.left ‹Below w1.heap.size w1 _ ∧ _›) hb; clear hb) | (go_at_call 40; refine (HP.out _ _ (thn HF1.out.b (And.left ‹Below w1.heap.size w1 _ ∧ _›)) hqc).mono ?_; rintro e w6 ⟨m6, o6, rfl, ho6, hb6⟩; have hq2 : Below w1.heap.size w1 w6 := thn (And.left ‹Below w1.heap.size w1 _ ∧ _›) hb6; clear hb6))
  obtain ⟨A6, c6, rfl, hr6⟩ := Rd.of_own (l := M) ho6.m_own
  have HF6 := Lib.hid (HF1.out.below hq2)
  have HR6 := Lib.hid hr6
  have hc6 := hr6.cap
  have hle6 := hr6.le
  clear ho6 hr6 hq2 hbW HSO HF1 hqc
  have hMx : 0 < M.length := by rw [HXR.out]; simp
  obtain ⟨ad, rfl, k0, k1, k2⟩ := HR6.out.at_ hMx
  have hx : M[0] = x := by have := HXR.out; subst this; rfl
  rw [hx, Nat.zero_mul, add_zero] at k0 k1 k2
  have hs6 := HF6.out.s
  have hr6' := HF6.out.r
  have hf6' := HF6.out.f
  have hcb := cell_lt k0
  have HMX := Lib.hid hMx
  have hM1 : (0 : Int) < (M.length : Int) := by omega
  clear hx
  go_upto_region 9 with fail
  have HSO := Lib.hid fun W' (hb : Below w6.heap.size w6 W') => (show W'.cell? ⟨w.heap.size, 0, none⟩ = some (.slice A n c) ∧ W'.cell? ad = some (.int .i64 x.t) ∧ W'.cell? ⟨ad.block, ad.off + 1, none⟩ = some (.string x.lo.s) ∧ W'.cell? ⟨ad.block, ad.off + 2, none⟩ = some (.string x.hi.s) ∧ W'.cell? ⟨gr, 0, none⟩ = some (ct W' ⟨gr, 0, none⟩) ∧ W'.frozen? ⟨gr, 0, none⟩ = false from ⟨cell_keep hs6 hb, cell_keep k0 hb, cell_keep k1 hb, cell_keep k2 hb, ct_of (cell_keep hr6' hb), (hb.frozen (p := ⟨gr, 0, none⟩) (cell_lt hr6')).trans hf6'⟩)
  have HSV := Lib.hid fun W' (hb : Below w6.heap.size w6 W') u => (show (W'.setCell ⟨gr, 0, none⟩ u).cell? ⟨w.heap.size, 0, none⟩ = some (.slice A n c) ∧ (W'.setCell ⟨gr, 0, none⟩ u).cell? ad = some (.int .i64 x.t) ∧ (W'.setCell ⟨gr, 0, none⟩ u).cell? ⟨ad.block, ad.off + 1, none⟩ = some (.string x.lo.s) ∧ (W'.setCell ⟨gr, 0, none⟩ u).cell? ⟨ad.block, ad.off + 2, none⟩ = some (.string x.hi.s) ∧ (W'.setCell ⟨gr, 0, none⟩ u).cell? ⟨gr, 0, none⟩ = some (ct (W'.setCell ⟨gr, 0, none⟩ u) ⟨gr, 0, none⟩) ∧ (W'.setCell ⟨gr, 0, none⟩ u).frozen? ⟨gr, 0, none⟩ = false by
    have c0 := cell_keep hs6 hb
    have c1 := cell_keep k0 hb
    have c2 := cell_keep k1 hb
    have c3 := cell_keep k2 hb
    have c4 := cell_keep hr6' hb
    have hng : w.heap.size ≠ gr := by have := HGR.out; omega
    refine ⟨(World.cell?_setCell_other W' ⟨gr, 0, none⟩ _ u (by simp <;> omega)).trans c0, (World.cell?_setCell_other W' ⟨gr, 0, none⟩ _ u fun e => ?_).trans c1, (World.cell?_setCell_other W' ⟨gr, 0, none⟩ _ u fun e => ?_).trans c2, (World.cell?_setCell_other W' ⟨gr, 0, none⟩ _ u fun e => ?_).trans c3, ct_some (some_set _ _ (by rw [c4]; rfl)), ?_⟩
    · rw [← e, c4] at c1; cases c1
    · rw [← e, c4] at c2; cases c2
    · rw [← e, c4] at c3; cases c3
    · rw [World.frozen?_setCell]; exact (hb.frozen (p := ⟨gr, 0, none⟩) (cell_lt hr6')).trans hf6')
  have hbW := (Below.refl w6.heap.size w6).drew
  clear k0 k1 k2 hs6 hr6' hf6'
  go_region_held3 (fun W' => W'.cell? ⟨w.heap.size, 0, none⟩ = some (.slice A n c) ∧ W'.cell? ad = some (.int .i64 x.t) ∧ W'.cell? ⟨ad.block, ad.off + 1, none⟩ = some (.string x.lo.s) ∧ W'.cell? ⟨ad.block, ad.off + 2, none⟩ = some (.string x.hi.s) ∧ W'.cell? ⟨gr, 0, none⟩ = some (ct W' ⟨gr, 0, none⟩) ∧ W'.frozen? ⟨gr, 0, none⟩ = false)
    (first | exact HSO.out _ hbW | exact HSO.out _ hq2 | exact HSV.out _ hq2 _)
    (first | (go_at_call 41; (with_reducible refine (HO.out _).mono ?_); rintro e w7 ⟨q, rfl, hqc, hb⟩; have hq2 : Below w6.heap.size w6 w7 := thn hbW hb; clear hb) | (go_at_call 30; refine (HA.out _ _ (thn HF6.out.b hq2) hqc).mono ?_; rintro e w8 ⟨v8, rfl, ho8, hb8⟩; obtain ⟨A8, c8, rfl, hr8⟩ := Rd.of_own (l := m) ho8; have hq3 : Below w6.heap.size w6 w8 := thn hq2 hb8; clear hb8 ho8 hq2 hqc; have hq2 := hq3; clear hq3) | (go_at_call 29; refine (fresh_any A8 m.length c8 m _ hr8 HLE.out).mono ?_; rintro e w9 ⟨g, rfl, hrw, hg, hgl, hb9⟩; have hg6 := Nat.le_trans hq2.size hg; have hq3 : Below w6.heap.size w6 w9 := thn hq2 hb9; clear hb9 hr8 hq2; have hq2 := hq3; clear hq3))
  have HF9 := Lib.hid (HF6.out.below hq2)
  have HR9 := Lib.hid (HF6.out.some_ hrw hg6 hq2 HLE.out)
  have hr4 := HF9.out.r
  have r0 := set_same (.slice (some ⟨g, 0, none⟩) m.length m.length) hr4
  go_wp2
  exact bodyPost_ret (v := .tuple #[.agg #[.slice (some ⟨g, 0, none⟩) m.length m.length], .int .i64 0]) (by simp [results, Try.results18, go_sem, r0]) rfl HR9.out
/-- Widen at every state. -/
theorem widen_any (A : Option Addr) (n c : Nat) (l : List Lk) (t k : Int) (w : World) (hr : Rd w A n c l) :
    Calls Try.prog 18 #[.agg #[.slice A n c], .int .i64 t, .int .i64 k] w (PairS (widR l t k).1 (widR l t k).2 w) := by
  unfold widR
  by_cases h : Ok l
  · by_cases hk : k < 1
    · simp only [h, hk, if_true]
      exact widen_range A n c l t k w hr h hk
    · by_cases hm : ((l.filter (ownB t)).length : Int) ≤ k
      · simp only [h, hk, hm, if_true, if_false]
        exact widen_few A n c l t k w hr h (by omega) hm
      · simp only [h, hk, hm, if_true, if_false]
        exact widen_wide A n c l t k w hr h (by omega) (by omega) _ rfl (widL_ok h).1
  · simp only [h, if_false]
    exact widen_bad A n c l t k w hr h
end Go.Proofs.Ytmjcmeebcochgaa
