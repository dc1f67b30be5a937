/- EvalLeast of the statements' package answers true for any values: the walk. Conditions: lengths that every machine keeps. -/
import Derived.Test.YtjogpcffldkhlaaEh
import Derived.BigRegion
namespace Go.Proofs.Ytjogpcffldkhlaa
open Go.RowKit Go.Sort
set_option linter.unusedSimpArgs false
set_option linter.unusedVariables false

theorem fold_min_any (A : Option Addr) (n c : Nat) (l : List Vl) (w : World) (hl : n = l.length) (hr : RdL w A l) (hA : A = none → n = 0) (hn : n * 32 ≤ 140737488355328) :
    Calls Try.prog 8 #[.int .i64 21, .slice A n c] w fun e w' => ∃ x : Vl, e = .returned (.tuple #[.agg #[.int .i64 x.k, .int .i64 x.n, .string x.s], .int .i64 0]) ∧ FoldX false (l.filter keepV) x ∧ Below w.heap.size w w' := by
  by_cases h : l.filter keepV = []
  · exact (fold_min_nil A n c l w hl hr hA hn h).mono fun e w' ⟨h1, h2⟩ => ⟨zeroV, h1, .inl ⟨h, rfl⟩, h2⟩
  · exact (fold_min_some A n c l w hl hr hA hn _ rfl (List.length_pos_iff.2 h)).mono fun e w' ⟨x, h1, h2, h3⟩ => ⟨x, h1, .inr ⟨h, h2⟩, h3⟩
theorem fold_max_any (A : Option Addr) (n c : Nat) (l : List Vl) (w : World) (hl : n = l.length) (hr : RdL w A l) (hA : A = none → n = 0) (hn : n * 32 ≤ 140737488355328) :
    Calls Try.prog 8 #[.int .i64 22, .slice A n c] w fun e w' => ∃ x : Vl, e = .returned (.tuple #[.agg #[.int .i64 x.k, .int .i64 x.n, .string x.s], .int .i64 0]) ∧ FoldX true (l.filter keepV) x ∧ Below w.heap.size w w' := by
  by_cases h : l.filter keepV = []
  · exact (fold_max_nil A n c l w hl hr hA hn h).mono fun e w' ⟨h1, h2⟩ => ⟨zeroV, h1, .inl ⟨h, rfl⟩, h2⟩
  · exact (fold_max_some A n c l w hl hr hA hn _ rfl (List.length_pos_iff.2 h)).mono fun e w' ⟨x, h1, h2, h3⟩ => ⟨x, h1, .inr ⟨h, h2⟩, h3⟩

def hitB (l : List Vl) (j : Nat) (a : Vl) : Bool := ((l.take j).filter keepV).any fun v => eqV v a
def someB (l : List Vl) (j : Nat) : Bool := (l.take j).any keepV
theorem take_any {l : List Vl} {j : Nat} (h : j < l.length) (f : Vl → Bool) : (l.take (j + 1)).any f = ((l.take j).any f || f l[j]) := by
  rw [List.take_succ_eq_append_getElem h, List.any_append]; simp
theorem hit_skip {l : List Vl} {j : Nat} (h : j < l.length) (a : Vl) (hk : l[j].k = 0) : hitB l (j + 1) a = hitB l j a := by
  unfold hitB
  rw [List.take_succ_eq_append_getElem h, List.filter_append]
  simp [keepV, hk]
theorem hit_next {l : List Vl} {j : Nat} (h : j < l.length) (a : Vl) (hk : ¬ l[j].k = 0) : hitB l (j + 1) a = (hitB l j a || eqV l[j] a) := by
  unfold hitB
  rw [List.take_succ_eq_append_getElem h, List.filter_append, List.any_append]
  simp [keepV, hk]

theorem cell_past {w : World} {g o : Nat} {p : Addr} {u : Value} (h : w.cell? p = some u) (hp : p.block ≠ g) (v : Value) : (w.setCell ⟨g, o, none⟩ v).cell? p = some u :=
  (World.cell?_setCells_out g [v] o w p (fun e _ => absurd e hp)).trans h

theorem FoldX.lo {l : List Vl} {x v : Vl} (h : FoldX false (l.filter keepV) x) (hv : v ∈ l) (hk : ¬ v.k = 0) : ¬ ordL v x < 0 := by
  have hm : v ∈ l.filter keepV := List.mem_filter.2 ⟨hv, by simp [keepV, hk]⟩
  rcases h with ⟨e, _⟩ | ⟨_, h⟩
  · rw [e] at hm; simp at hm
  · simpa using h.2 v hm
theorem FoldX.hi {l : List Vl} {x v : Vl} (h : FoldX true (l.filter keepV) x) (hv : v ∈ l) (hk : ¬ v.k = 0) : ¬ 0 < ordL v x := by
  have hm : v ∈ l.filter keepV := List.mem_filter.2 ⟨hv, by simp [keepV, hk]⟩
  rcases h with ⟨e, _⟩ | ⟨_, h⟩
  · rw [e] at hm; simp at hm
  · have h1 := h.2 v hm
    simp only [if_true] at h1
    rw [ordL_neg]; omega
theorem FoldX.hit {up : Bool} {l : List Vl} {x : Vl} (h : FoldX up (l.filter keepV) x) (hs : someB l l.length = true) : hitB l l.length x = true := by
  rcases h with ⟨e, _⟩ | ⟨_, h⟩
  · unfold someB at hs
    rw [List.take_length] at hs
    obtain ⟨v, hv, hk⟩ := List.any_eq_true.1 hs
    have : v ∈ l.filter keepV := List.mem_filter.2 ⟨hv, hk⟩
    rw [e] at this; simp at this
  · unfold hitB
    rw [List.take_length]
    exact List.any_eq_true.2 ⟨x, h.1, eqV_iff.2 rfl⟩
theorem FoldX.none {up : Bool} {l : List Vl} {x : Vl} (h : FoldX up (l.filter keepV) x) (hs : someB l l.length = false) : x = zeroV := by
  rcases h with ⟨_, e⟩ | ⟨hne, _⟩
  · exact e
  · refine absurd (List.filter_eq_nil_iff.2 fun v hv hk => ?_) hne
    unfold someB at hs
    rw [List.take_length] at hs
    have := List.any_eq_false.1 hs v hv
    exact this hk
theorem put2 {w : World} {g : Nat} {x y : Value} (i0 : w.cell? ⟨g, 0, none⟩ = some x) (i1 : w.cell? ⟨g, 1, none⟩ = some y) (q0 : w.frozen? ⟨g, 0, none⟩ = false) (q1 : w.frozen? ⟨g, 1, none⟩ = false) (P Q : Value) :
    (((w.setCell ⟨g, 0, none⟩ P).setCell ⟨g, 1, none⟩ Q).drew.cell? ⟨g, 0, none⟩ = some P) ∧ (((w.setCell ⟨g, 0, none⟩ P).setCell ⟨g, 1, none⟩ Q).drew.cell? ⟨g, 1, none⟩ = some Q) ∧
    (((w.setCell ⟨g, 0, none⟩ P).setCell ⟨g, 1, none⟩ Q).drew.frozen? ⟨g, 0, none⟩ = false) ∧ (((w.setCell ⟨g, 0, none⟩ P).setCell ⟨g, 1, none⟩ Q).drew.frozen? ⟨g, 1, none⟩ = false) ∧ Below g w ((w.setCell ⟨g, 0, none⟩ P).setCell ⟨g, 1, none⟩ Q).drew := by
  have hs := World.cell?_setCells_in g [P, Q] 0 w (fun j hj => by
    rcases (show j = 0 ∨ j = 1 by simp at hj; omega) with rfl | rfl
    · rw [i0]; rfl
    · rw [show 0 + 1 = 1 from rfl, i1]; rfl)
  exact ⟨hs 0 (by simp), hs 1 (by simp), (World.frozen?_setCells g [P, Q] 0 w ⟨g, 0, none⟩).trans q0, (World.frozen?_setCells g [P, Q] 0 w ⟨g, 1, none⟩).trans q1, (((Below.refl g w).setCell (by simp) P).setCell (by simp) Q).drew⟩

set_option maxHeartbeats 4000000 in
theorem kLeast_any (A : Option Addr) (n c : Nat) (l : List Vl) (w : World) (hl : n = l.length) (hr : RdL w A l) (hA : A = none → n = 0) (hn : n * 32 ≤ 140737488355328) :
    Calls Try.prog 4 #[.slice A n c] w fun e w' => e = .returned (.bool true) ∧ Below w.heap.size w w' := by
  have HR := Lib.hid hr
  subst hl
  have hmin := fun w (h : RdL w A l) => fold_min_any A l.length c l w rfl h hA hn
  have hmax := fun w (h : RdL w A l) => fold_max_any A l.length c l w rfl h hA hn
  clear hr
  have hlen : l.length ≤ 9223372036854775807 := by omega
  go_enter Try.func4, Try.ntmps4
  go_upto_region 3 with (go_at_call 5; refine (alive_any _).mono ?_; rintro e w1 ⟨rfl, hb1⟩; have HB1 := Lib.hid hb1; clear hb1)
  go_upto_region 4 with (go_at_call 8; refine (hmin _ (HR.out.below HB1.out)).mono ?_; rintro e w2 ⟨a, rfl, ha, hb2⟩; have HA := Lib.hid ha; have HB2 := Lib.hid (HB1.out.trans (hb2.mono HB1.out.size)); clear ha hb2 hmin)
  have hRa := Row.new w2 a 23 _ rfl
  have hB := HB2.out.trans ((below1 w2 (.cells #[.int .i64 a.k, .int .i64 a.n, .string a.s] 23)).mono HB2.out.size)
  have hz : w2.heap.size < (w2.alloc (.cells #[.int .i64 a.k, .int .i64 a.n, .string a.s] 23)).heap.size := by simp
  generalize w2.alloc (.cells #[.int .i64 a.k, .int .i64 a.n, .string a.s] 23) = W2 at hRa hB hz ⊢
  have HRa := Lib.hid hRa
  have HBa := Lib.hid hB
  clear hRa hB HB1
  go_upto_region 5 with (go_at_call 8; refine (hmax _ (HR.out.below HBa.out)).mono ?_; rintro e w3 ⟨b, rfl, hb, hb3⟩; have HB := Lib.hid hb; have HB3 := Lib.hid hb3; clear hb hb3 hmax)
  have hRa := (HRa.out.below HB3.out).below (below1 w3 (.cells #[.int .i64 b.k, .int .i64 b.n, .string b.s] 23))
  have hRb := Row.new w3 b 23 _ rfl
  have hB := (HBa.out.trans (HB3.out.mono HBa.out.size)).trans ((below1 w3 (.cells #[.int .i64 b.k, .int .i64 b.n, .string b.s] 23)).mono (by have := HBa.out.size; have := HB3.out.size; omega))
  have hz3 : w3.heap.size < (w3.alloc (.cells #[.int .i64 b.k, .int .i64 b.n, .string b.s] 23)).heap.size := by simp
  have hab : w2.heap.size < w3.heap.size := Nat.lt_of_lt_of_le hz HB3.out.size
  have hwa : w.heap.size ≤ w2.heap.size := HB2.out.size
  generalize w3.alloc (.cells #[.int .i64 b.k, .int .i64 b.n, .string b.s] 23) = W3 at hRa hRb hB hz3 ⊢
  have HRa' := Lib.hid hRa
  have HRb := Lib.hid hRb
  have HBb := Lib.hid hB
  clear hRa hRb hB HRa HBa HB3 HB2
  generalize w2.heap.size = ga at *
  generalize w3.heap.size = gb at *
  go_upto_region 9 with (go_at_call 7; refine (lnum_any _ _).mono ?_; rintro e w7 ⟨rfl, rfl⟩)
  have hRa := HRa'.out.below (below1 W3 (.cells #[.bool false, .bool false] 35))
  have hRb := HRb.out.below (below1 W3 (.cells #[.bool false, .bool false] 35))
  have hB := HBb.out.alloc (by have := HBb.out.size; omega) (.cells #[.bool false, .bool false] 35)
  have i0 : (W3.alloc (.cells #[.bool false, .bool false] 35)).cell? ⟨W3.heap.size, 0, none⟩ = some (.bool false) := by rw [cell_last _ _ _ _ _ rfl]; rfl
  have i1 : (W3.alloc (.cells #[.bool false, .bool false] 35)).cell? ⟨W3.heap.size, 1, none⟩ = some (.bool false) := by rw [cell_last _ _ _ _ _ rfl]; rfl
  have q0 := frozen_last W3 #[.bool false, .bool false] 35 W3.heap.size 0 rfl
  have q1 := frozen_last W3 #[.bool false, .bool false] 35 W3.heap.size 1 rfl
  have hzi : W3.heap.size < (W3.alloc (.cells #[.bool false, .bool false] 35)).heap.size := by simp
  generalize W3.alloc (.cells #[.bool false, .bool false] 35) = W4 at hRa hRb hB i0 i1 q0 q1 hzi ⊢
  have HS := Lib.hid (show Row W4 ga [a] ∧ Row W4 gb [b] ∧ Below w.heap.size w W4 from ⟨hRa, hRb, hB⟩)
  clear hRa hRb hB HRa' HRb HBb
  generalize W3.heap.size = gi at *
  go_loopw [8, 9] (fun sv iv wr => ∃ j : Nat, sv = .bool (someB l j) ∧ iv = .int .i64 j ∧ j ≤ l.length ∧ wr.cell? ⟨gi, 0, none⟩ = some (.bool (hitB l j a)) ∧ wr.cell? ⟨gi, 1, none⟩ = some (.bool (hitB l j b)) ∧ wr.frozen? ⟨gi, 0, none⟩ = false ∧ wr.frozen? ⟨gi, 1, none⟩ = false ∧ Row wr ga [a] ∧ Row wr gb [b] ∧ Below w.heap.size w wr ∧ gi < wr.heap.size) (fun _ iv _ => l.length - (intOf iv).toNat)
  case atStart => exact ⟨0, rfl, rfl, by omega, i0, i1, q0, q1, HS.out.1, HS.out.2.1, HS.out.2.2, hzi⟩
  case round =>
    clear i0 i1 q0 q1 HS
    obtain ⟨j, rfl, rfl, hle, i0, i1, q0, q1, hRa, hRb, hB, hzi⟩ := hrel
    have HRa := Lib.hid hRa
    have HRb := Lib.hid hRb
    have HBw := Lib.hid hB
    clear hRa hRb hB
    by_cases hlt : j < l.length
    · obtain ⟨ad, rfl, c0, c1, c2⟩ := (HR.out.below HBw.out).at_ hlt
      have hb0 : ad.block < w.heap.size := by
        obtain ⟨ad', e0, d0, _⟩ := HR.out.at_ hlt
        injection e0 with e0
        subst e0
        have := cell_lt d0
        rwa [add_block] at this
      have n0 : (ad.add (j * 3)).block ≠ gi := by rw [add_block]; omega
      have n1 : gi ≠ (ad.add (j * 3)).block := by rw [add_block]; omega
      have n2 : ga ≠ gi := by omega
      have n3 : gb ≠ gi := by omega
      by_cases hk : l[j].k = 0
      · have e1 := hit_skip hlt a hk
        have e2 := hit_skip hlt b hk
        have e3 : someB l (j + 1) = someB l j := by unfold someB; rw [take_any hlt]; simp [keepV, hk]
        have E1 := Lib.hid e1
        have E2 := Lib.hid e2
        have E3 := Lib.hid e3
        clear e1 e2 e3
        go_wp2
        go_roundw
        case rel => exact ⟨j + 1, by rw [E3.out], by go_num, hlt, by rw [E1.out]; exact i0, by rw [E2.out]; exact i1, q0, q1, HRa.out, HRb.out, HBw.out, hzi⟩
        case measure => simp [intOf]; omega
      · have e1 := hit_next hlt a hk
        have e2 := hit_next hlt b hk
        have e3 : someB l (j + 1) = true := by unfold someB; rw [take_any hlt]; simp [keepV, hk]
        have E1 := Lib.hid e1
        have E2 := Lib.hid e2
        have E3 := Lib.hid e3
        clear e1 e2 e3
        go_upto_region 13 with fail
        obtain ⟨a0, a1, a2, _, _, _⟩ := HRa.out.one
        obtain ⟨b0, b1, b2, _, _, _⟩ := HRb.out.one
        have hqa := fun w => run_eqV l[j] a w
        have hqb := fun w => run_eqV l[j] b w
        have hgv := guardV
        generalize hPa : eqV l[j] a = Pa at hqa
        generalize hPb : eqV l[j] b = Pb at hqb
        have HPa := Lib.hid hPa
        have HPb := Lib.hid hPb
        clear hPa hPb
        generalize hEa : hitB l j a = Ea at i0
        generalize hEb : hitB l j b = Eb at i1
        have HEa := Lib.hid hEa
        have HEb := Lib.hid hEb
        clear hEa hEb
        go_cut [8] (fun sv wx => sv = .bool true ∧ wx.cell? ⟨gi, 0, none⟩ = some (.bool (Ea || Pa)) ∧ wx.cell? ⟨gi, 1, none⟩ = some (.bool (Eb || Pb)) ∧ wx.frozen? ⟨gi, 0, none⟩ = false ∧ wx.frozen? ⟨gi, 1, none⟩ = false ∧ Below gi wr wx)
        case first =>
          have d0 := cell_past (g := gi) (o := 0) c0 n0
          have d1 := cell_past (g := gi) (o := 0) c1 n0
          have d2 := cell_past (g := gi) (o := 0) c2 n0
          have g0 := cell_past (g := gi) (o := 0) b0 n3
          have g1 := cell_past (g := gi) (o := 0) b1 n3
          have g2 := cell_past (g := gi) (o := 0) b2 n3
          clear n0 n1 n2 n3
          have hput := put2 i0 i1 q0 q1
          cases Ea
          · cases Eb
            · go_region
              all_goals go_wp2_with fail
              all_goals go_meet
              all_goals exact ⟨rfl, hput (.bool Pa) (.bool Pb)⟩
            · go_region
              all_goals go_wp2_with fail
              all_goals go_meet
              all_goals exact ⟨rfl, hput (.bool Pa) (.bool true)⟩
          · cases Eb
            · go_region
              all_goals go_wp2_with fail
              all_goals go_meet
              all_goals exact ⟨rfl, hput (.bool true) (.bool Pb)⟩
            · go_region
              all_goals go_wp2_with fail
              all_goals go_meet
              all_goals exact ⟨rfl, hput (.bool true) (.bool true)⟩
        case rest =>
          obtain ⟨rfl, i0', i1', q0', q1', hBw⟩ := hcut
          have HP := Lib.hid hBw
          have hRa := HRa.out.under hBw (by omega)
          have hRb := HRb.out.under hBw (by omega)
          have c0' := (hBw.cell (p := ad.add (j * 3)) (by rw [add_block]; omega)).trans c0
          have c1' := (hBw.cell (p := ⟨(ad.add (j * 3)).block, (ad.add (j * 3)).off + 1, none⟩) (by show (ad.add (j * 3)).block < gi; rw [add_block]; omega)).trans c1
          have c2' := (hBw.cell (p := ⟨(ad.add (j * 3)).block, (ad.add (j * 3)).off + 2, none⟩) (by show (ad.add (j * 3)).block < gi; rw [add_block]; omega)).trans c2
          clear a0 a1 a2 b0 b1 b2 c0 c1 c2 i0 i1 q0 q1 n0 n1 n2 n3 hqa hqb hgv
          obtain ⟨a0, a1, a2, _, _, _⟩ := hRa.one
          obtain ⟨b0, b1, b2, _, _, _⟩ := hRb.one
          have ho0 := fun w => order_V l[j] a w
          have ho1 := fun w => order_V l[j] b w
          have hn0 := HA.out.lo (List.getElem_mem hlt) hk
          have hn1 := HB.out.hi (List.getElem_mem hlt) hk
          generalize ordL l[j] a = O0 at ho0 hn0
          generalize ordL l[j] b = O1 at ho1 hn1
          have HRa' := Lib.hid hRa
          have HRb' := Lib.hid hRb
          clear hRa hRb hBw
          have HI := Lib.hid (And.intro i0' (And.intro i1' (And.intro q0' q1')))
          clear i0' i1' q0' q1'
          go_wp2_with fail
          have a0r := cell_regrown a0
          have a1r := cell_regrown a1
          have a2r := cell_regrown a2
          have b0r := cell_regrown b0
          have b1r := cell_regrown b1
          have b2r := cell_regrown b2
          have c0r := cell_regrown c0'
          have c1r := cell_regrown c1'
          have c2r := cell_regrown c2'
          clear a0 a1 a2 b0 b1 b2 c0' c1' c2'
          have hd0 : decide (O0 < 0) = false := by simpa using hn0
          have hd1 : decide (0 < O1) = false := by simpa using hn1
          refine wp_region_quiet_below (by kernel_rfl) (by kernel_rfl) ?_
          repeat (go_big_quiet_step (first | (with_reducible exact Calls.regrown_of (ho0 _)) | (with_reducible exact Calls.regrown_of (ho1 _))))
          refine wpQuiet_nil ?_
          intro w5 hw5
          obtain ⟨pp, rfl⟩ := hw5
          clear a0r a1r a2r b0r b1r b2r c0r c1r c2r ho0 ho1
          have hb5 := below_regrown wc pp.d pp.os
          generalize grow (redrawn wc pp.d) pp.os = W5 at hb5 ⊢
          have HB5 := Lib.hid hb5
          clear hb5
          go_wp2_with fail
          go_roundw
          case rel =>
            have hz5 : gi < wc.heap.size := cell_lt HI.out.1
            refine ⟨j + 1, by rw [E3.out], by go_num, hlt, ?_, ?_, ?_, ?_, HRa'.out.below HB5.out, HRb'.out.below HB5.out, HBw.out.trans ((HP.out.mono (by omega)).trans (HB5.out.mono (by have := HBw.out.size; have := HP.out.size; omega))), Nat.lt_of_lt_of_le hz5 HB5.out.size⟩
            · rw [E1.out, HEa.out, HPa.out, HB5.out.cell (p := ⟨gi, 0, none⟩) hz5]; exact HI.out.1
            · rw [E2.out, HEb.out, HPb.out, HB5.out.cell (p := ⟨gi, 1, none⟩) hz5]; exact HI.out.2.1
            · rw [HB5.out.frozen (p := ⟨gi, 0, none⟩) hz5]; exact HI.out.2.2.1
            · rw [HB5.out.frozen (p := ⟨gi, 1, none⟩) hz5]; exact HI.out.2.2.2
          case measure => simp [intOf]; omega
    · obtain rfl : j = l.length := by omega
      clear hlt
      have hgv := guardV
      by_cases hs : someB l l.length = true
      · rw [HA.out.hit hs] at i0
        rw [HB.out.hit hs] at i1
        rw [hs]
        clear hs q0 q1
        go_wp2
        go_ret
        exact ⟨rfl, HBw.out⟩
      · have hs' : someB l l.length = false := by simpa using hs
        have ea := HA.out.none hs'
        have eb := HB.out.none hs'
        subst ea eb
        rw [hs']
        clear hs hs' q0 q1
        have hq : ∀ w, (binOp .eql 23 (.agg #[.int .i64 0, .int .i64 0, .string ⟨#[]⟩]) (.agg #[.int .i64 0, .int .i64 0, .string ⟨#[]⟩])).run Try.prog w = .ok (.bool true) w := fun w => by
          have h := run_eqV zeroV zeroV w
          rw [eqV_iff.2 rfl] at h
          exact h
        obtain ⟨a0, a1, a2, _, _, _⟩ := HRa.out.one
        obtain ⟨b0, b1, b2, _, _, _⟩ := HRb.out.one
        simp only [zeroV] at a0 a1 a2 b0 b1 b2
        go_wp2
        go_ret
        exact ⟨rfl, HBw.out⟩

end Go.Proofs.Ytjogpcffldkhlaa
