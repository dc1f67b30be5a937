/- What Commit and Abort of package ssi make of any state: the walks. Conditions: a state that is read in memory. -/
import Derived.Test.YtlcmpngjmmbkcaaVf
namespace Go.Proofs.Ytlcmpngjmmbkcaa
open Go.RowKit Go.Sort Go.Maps
set_option linter.unusedSimpArgs false
set_option linter.unusedVariables false

open Classical in
/-- What Commit answers. -/
noncomputable def comR (s : St) (i : Int) : St × Int × Int :=
  if Ok s then (if h : plc i s.l < s.l.length then (if s.l[plc i s.l].e ≠ 0 then (zS, 0, 9) else if (s.l[plc i s.l].a && s.l[plc i s.l].o) = true then (zS, 0, 96) else if s.c = 1099511627776 then (zS, 0, 51) else
    (⟨s.l.set (plc i s.l) ⟨s.l[plc i s.l].i, s.l[plc i s.l].s, s.c + 1, s.l[plc i s.l].a, s.l[plc i s.l].o⟩, s.c + 1, s.n⟩, s.c + 1, 0)) else (zS, 0, 71)) else (zS, 0, 9)
open Classical in
/-- What Abort answers. -/
noncomputable def aboR (s : St) (i : Int) : St × Int :=
  if Ok s then (if h : plc i s.l < s.l.length then (if s.l[plc i s.l].e ≠ 0 then (zS, 9) else (⟨s.l.set (plc i s.l) ⟨s.l[plc i s.l].i, s.l[plc i s.l].s, -1, s.l[plc i s.l].a, s.l[plc i s.l].o⟩, s.c, s.n⟩, 0)) else (zS, 71)) else (zS, 9)
/-- A state and an error. -/
def AnsE (R : St × Int) (w : World) (e : Ending) (w' : World) : Prop := ∃ A n c, e = .returned (.tuple #[.agg #[.slice A n c, .int .i64 R.1.c, .int .i64 R.1.n], .int .i64 R.2]) ∧ Rd w' A n c R.1.l ∧ Below w.heap.size w w'
theorem AnsE.zero {w w' : World} (E : Int) (hb : Below w.heap.size w w') : AnsE (zS, E) w (.returned (.tuple #[.agg #[.slice none 0 0, .int .i64 0, .int .i64 0], .int .i64 E])) w' := ⟨none, 0, 0, rfl, Rd.nothing _, hb⟩
theorem opn_e {i : Int} {l : List Tx} (hP : plc i l < l.length) (h : opnR i l = ((plc i l : Int), 0)) : l[plc i l].e = 0 := by
  unfold opnR at h
  rw [dif_pos hP] at h
  split at h
  · have := congrArg Prod.snd h
    simp at this
  · rename_i k
    simpa using k
theorem Row.putu {w : World} {g i : Nat} {m : List Tx} (h : Row w g m) (u v : Tx) (hu : m[i]? = some u) (k : Nat) (hk : k < 5) (x : Value) (hx : (txC v)[k]? = some x) (ho : ∀ r, r ≠ k → (txC v)[r]? = (txC u)[r]?) : Row (w.setCell ⟨g, i * 5 + k, none⟩ x) g (m.set i v) := by
  obtain ⟨hi, e⟩ := List.getElem?_eq_some_iff.1 hu
  subst e
  exact h.put v hi k hk x hx ho
/-- The transaction at a place. -/
theorem Rd.txn {w : World} {A : Option Addr} {n c P : Nat} {l : List Tx} (h : Rd w A n c l) (hP : P < l.length) : ∃ ad, A = some ad ∧ ∀ W, Below w.heap.size w W → ad.block < W.heap.size ∧ W.cell? (ad.add (P * 5)) = some (.int .i64 l[P].i) ∧ W.cell? ⟨(ad.add (P * 5)).block, (ad.add (P * 5)).off + 1, none⟩ = some (.int .i64 l[P].s) ∧ W.cell? ⟨(ad.add (P * 5)).block, (ad.add (P * 5)).off + 2, none⟩ = some (.int .i64 l[P].e) ∧ W.cell? ⟨(ad.add (P * 5)).block, (ad.add (P * 5)).off + 3, none⟩ = some (.bool l[P].a) ∧ W.cell? ⟨(ad.add (P * 5)).block, (ad.add (P * 5)).off + 4, none⟩ = some (.bool l[P].o) := by
  obtain ⟨ad, rfl, _⟩ := h.at_ hP
  refine ⟨ad, rfl, fun W hb => ?_⟩
  obtain ⟨c0, c1, c2, c3, c4⟩ := (h.below hb).cells ad rfl P _ (List.getElem?_eq_getElem hP)
  have := cell_lt c0
  rw [add_block] at this
  exact ⟨this, c0, c1, c2, c3, c4⟩
set_option maxRecDepth 100000 in
set_option maxHeartbeats 4000000 in
/-- Commit refuses. -/
theorem commit_no (A : Option Addr) (n c : Nat) (s : St) (i : Int) (w : World) (hr : Rd w A n c s.l) (E : Int) (hE : (¬ Ok s ∧ E = 9) ∨ (Ok s ∧ (opnR i s.l).2 = E ∧ E ≠ 0)) :
    Calls Try.prog 13 #[.agg #[.slice A n c, .int .i64 s.c, .int .i64 s.n], .int .i64 i] w (AnsI (zS, 0, E) w) := by
  have hlen := hr.len
  have HCK := Lib.hid fun W (hb : Below w.heap.size w W) => check_any A n c s W (hr.below hb)
  have HOP := Lib.hid fun W (hb : Below w.heap.size w W) => open_any i A n c s.l W (hr.below hb)
  obtain ⟨hx, hy, hb0⟩ := two3 w (.slice A n c) (.int .i64 s.c) (.int .i64 s.n) (.slice none 0 0) (.int .i64 0) (.int .i64 0) 28
  have HX := Lib.hid hx
  have HY := Lib.hid hy
  have HB0 := Lib.hid hb0
  have x0 := hx.c0
  have x1 := hx.c1
  have x2 := hx.c2
  have y0 := hy.c0
  have y1 := hy.c1
  have y2 := hy.c2
  have yf0 := hy.f0
  have yf1 := hy.f1
  have yf2 := hy.f2
  clear hx hy hb0
  rcases hE with ⟨hOk, rfl⟩ | ⟨hOk, hE, h0⟩
  · rw [chk_bad hOk] at HCK
    clear hOk
    go_enter Try.func13, Try.ntmps13
    go_upto_region 1 with fail
    generalize (w.alloc (.cells #[.slice A n c, .int .i64 s.c, .int .i64 s.n] 28)).alloc (.cells #[.slice none 0 0, .int .i64 0, .int .i64 0] 28) = W0 at *
    go_wp2_with (first | (go_at_call 11; (with_reducible refine (HCK.out _ HB0.out).mono ?_); rintro e w1 ⟨rfl, hb1⟩; have HB1 := Lib.hid (thn HB0.out hb1); have HX1 := Lib.hid (HX.out.below hb1); have u0 := HX1.out.c0; have u1 := HX1.out.c1; have u2 := HX1.out.c2; have HY1 := Lib.hid (HY.out.below hb1); have z0 := HY1.out.c0; have z1 := HY1.out.c1; have z2 := HY1.out.c2; have zf0 := HY1.out.f0; have zf1 := HY1.out.f1; have zf2 := HY1.out.f2; clear hb1))
    obtain ⟨q0, q1, q2, _, _, _⟩ := HY1.out.set3 (.slice none 0 0) (.int .i64 0) (.int .i64 0)
    exact bodyPost_ret (v := .tuple #[.agg #[.slice none 0 0, .int .i64 0, .int .i64 0], .int .i64 0, .int .i64 9]) (by simp [results, Try.results13, go_sem, q0, q1, q2]) rfl (AnsI.zero _ (((HB1.out.setCell (by simp) _).setCell (by simp) _).setCell (by simp) _))
  · rw [chk_ok hOk] at HCK
    generalize opnR i s.l = O at *
    obtain ⟨P, F⟩ := O
    simp only at HOP hE
    subst hE
    have h0' : (F != 0) = true := by simpa using h0
    clear h0 hOk
    go_enter Try.func13, Try.ntmps13
    go_upto_region 1 with fail
    generalize (w.alloc (.cells #[.slice A n c, .int .i64 s.c, .int .i64 s.n] 28)).alloc (.cells #[.slice none 0 0, .int .i64 0, .int .i64 0] 28) = W0 at *
    go_wp2_with (first | (go_at_call 11; (with_reducible refine (HCK.out _ HB0.out).mono ?_); rintro e w1 ⟨rfl, hb1⟩; have HB1 := Lib.hid (thn HB0.out hb1); have HX1 := Lib.hid (HX.out.below hb1); have u0 := HX1.out.c0; have u1 := HX1.out.c1; have u2 := HX1.out.c2; have HY1 := Lib.hid (HY.out.below hb1); have z0 := HY1.out.c0; have z1 := HY1.out.c1; have z2 := HY1.out.c2; have zf0 := HY1.out.f0; have zf1 := HY1.out.f1; have zf2 := HY1.out.f2; clear hb1) | (go_at_call 23; (with_reducible refine (HOP.out _ HB1.out).mono ?_); rintro e w2 ⟨rfl, hb2⟩; have HB2 := Lib.hid (thn HB1.out hb2); have HX2 := Lib.hid (HX1.out.below hb2); have u0 := HX2.out.c0; have u1 := HX2.out.c1; have u2 := HX2.out.c2; have HY2 := Lib.hid (HY1.out.below hb2); have z0 := HY2.out.c0; have z1 := HY2.out.c1; have z2 := HY2.out.c2; have zf0 := HY2.out.f0; have zf1 := HY2.out.f1; have zf2 := HY2.out.f2; clear hb2))
    obtain ⟨q0, q1, q2, _, _, _⟩ := HY2.out.set3 (.slice none 0 0) (.int .i64 0) (.int .i64 0)
    exact bodyPost_ret (v := .tuple #[.agg #[.slice none 0 0, .int .i64 0, .int .i64 0], .int .i64 0, .int .i64 F]) (by simp [results, Try.results13, go_sem, q0, q1, q2]) rfl (AnsI.zero _ (((HB2.out.setCell (by simp) _).setCell (by simp) _).setCell (by simp) _))
set_option maxRecDepth 100000 in
set_option maxHeartbeats 4000000 in
/-- Commit refuses one with both flags. -/
theorem commit_both (A : Option Addr) (n c : Nat) (s : St) (i : Int) (w : World) (hr : Rd w A n c s.l) (hOk : Ok s) (hP : plc i s.l < s.l.length) (hop : opnR i s.l = ((plc i s.l : Int), 0)) (hb : (s.l[plc i s.l].a && s.l[plc i s.l].o) = true) :
    Calls Try.prog 13 #[.agg #[.slice A n c, .int .i64 s.c, .int .i64 s.n], .int .i64 i] w (AnsI (zS, 0, 96) w) := by
  have hlen := hr.len
  have HCK := Lib.hid fun W (hb : Below w.heap.size w W) => check_any A n c s W (hr.below hb)
  have HOP := Lib.hid fun W (hb : Below w.heap.size w W) => open_any i A n c s.l W (hr.below hb)
  obtain ⟨hx, hy, hb0⟩ := two3 w (.slice A n c) (.int .i64 s.c) (.int .i64 s.n) (.slice none 0 0) (.int .i64 0) (.int .i64 0) 28
  have HX := Lib.hid hx
  have HY := Lib.hid hy
  have HB0 := Lib.hid hb0
  have x0 := hx.c0
  have x1 := hx.c1
  have x2 := hx.c2
  have y0 := hy.c0
  have y1 := hy.c1
  have y2 := hy.c2
  have yf0 := hy.f0
  have yf1 := hy.f1
  have yf2 := hy.f2
  clear hx hy hb0
  rw [chk_ok hOk] at HCK
  rw [hop] at HOP
  obtain ⟨ad, rfl, htx⟩ := hr.txn hP
  have HTX := Lib.hid htx
  have HHB := Lib.hid fun W => hasBoth_any s.l[plc i s.l] W
  have hpl : (plc i s.l : Int) < (n : Int) := by omega
  have hpn : plc i s.l < n := by omega
  have hcap := hr.le
  have hcap2 := hr.cap
  have hpc : (plc i s.l : Int) < 9223372036854775807 := by omega
  rw [hb] at HHB
  clear hOk hop hb
  generalize s.l[plc i s.l] = t at *
  generalize plc i s.l = P at *
  go_enter Try.func13, Try.ntmps13
  go_upto_region 1 with fail
  generalize (w.alloc (.cells #[.slice (some ad) n c, .int .i64 s.c, .int .i64 s.n] 28)).alloc (.cells #[.slice none 0 0, .int .i64 0, .int .i64 0] 28) = W0 at *
  go_wp2_with (first | (go_at_call 11; (with_reducible refine (HCK.out _ HB0.out).mono ?_); rintro e w1 ⟨rfl, hb1⟩; have HB1 := Lib.hid (thn HB0.out hb1); have HX1 := Lib.hid (HX.out.below hb1); have u0 := HX1.out.c0; have u1 := HX1.out.c1; have u2 := HX1.out.c2; have HY1 := Lib.hid (HY.out.below hb1); have z0 := HY1.out.c0; have z1 := HY1.out.c1; have z2 := HY1.out.c2; have zf0 := HY1.out.f0; have zf1 := HY1.out.f1; have zf2 := HY1.out.f2; clear hb1) | (go_at_call 23; (with_reducible refine (HOP.out _ HB1.out).mono ?_); rintro e w2 ⟨rfl, hb2⟩; have HB2 := Lib.hid (thn HB1.out hb2); have HX2 := Lib.hid (HX1.out.below hb2); have u0 := HX2.out.c0; have u1 := HX2.out.c1; have u2 := HX2.out.c2; have HY2 := Lib.hid (HY1.out.below hb2); have z0 := HY2.out.c0; have z1 := HY2.out.c1; have z2 := HY2.out.c2; have zf0 := HY2.out.f0; have zf1 := HY2.out.f1; have zf2 := HY2.out.f2; have HT2 := Lib.hid (HTX.out _ HB2.out); have tl := HT2.out.1; have t0 := HT2.out.2.1; have t1 := HT2.out.2.2.1; have t2 := HT2.out.2.2.2.1; have t3 := HT2.out.2.2.2.2.1; have t4 := HT2.out.2.2.2.2.2; clear hb2) | (go_at_call 24; (with_reducible refine (HHB.out _).mono ?_); rintro e w3 ⟨rfl, hb3⟩; have HB3 := Lib.hid (thn HB2.out hb3); have HX3 := Lib.hid (HX2.out.below hb3); have u0 := HX3.out.c0; have u1 := HX3.out.c1; have u2 := HX3.out.c2; have HY3 := Lib.hid (HY2.out.below hb3); have z0 := HY3.out.c0; have z1 := HY3.out.c1; have z2 := HY3.out.c2; have zf0 := HY3.out.f0; have zf1 := HY3.out.f1; have zf2 := HY3.out.f2; clear hb3))
  obtain ⟨q0, q1, q2, _, _, _⟩ := HY3.out.set3 (.slice none 0 0) (.int .i64 0) (.int .i64 0)
  exact bodyPost_ret (v := .tuple #[.agg #[.slice none 0 0, .int .i64 0, .int .i64 0], .int .i64 0, .int .i64 96]) (by simp [results, Try.results13, go_sem, q0, q1, q2]) rfl (AnsI.zero _ (((HB3.out.setCell (by simp) _).setCell (by simp) _).setCell (by simp) _))
set_option maxRecDepth 100000 in
set_option maxHeartbeats 4000000 in
/-- Commit has no stamp left. -/
theorem commit_full (A : Option Addr) (n c : Nat) (s : St) (i : Int) (w : World) (hr : Rd w A n c s.l) (hOk : Ok s) (hP : plc i s.l < s.l.length) (hop : opnR i s.l = ((plc i s.l : Int), 0)) (hb : (s.l[plc i s.l].a && s.l[plc i s.l].o) = false) (hc : s.c = 1099511627776) :
    Calls Try.prog 13 #[.agg #[.slice A n c, .int .i64 s.c, .int .i64 s.n], .int .i64 i] w (AnsI (zS, 0, 51) w) := by
  have hlen := hr.len
  have HCK := Lib.hid fun W (hb : Below w.heap.size w W) => check_any A n c s W (hr.below hb)
  have HOP := Lib.hid fun W (hb : Below w.heap.size w W) => open_any i A n c s.l W (hr.below hb)
  obtain ⟨hx, hy, hb0⟩ := two3 w (.slice A n c) (.int .i64 s.c) (.int .i64 s.n) (.slice none 0 0) (.int .i64 0) (.int .i64 0) 28
  have HX := Lib.hid hx
  have HY := Lib.hid hy
  have HB0 := Lib.hid hb0
  have x0 := hx.c0
  have x1 := hx.c1
  have x2 := hx.c2
  have y0 := hy.c0
  have y1 := hy.c1
  have y2 := hy.c2
  have yf0 := hy.f0
  have yf1 := hy.f1
  have yf2 := hy.f2
  clear hx hy hb0
  rw [chk_ok hOk] at HCK
  rw [hop] at HOP
  obtain ⟨ad, rfl, htx⟩ := hr.txn hP
  have HTX := Lib.hid htx
  have HHB := Lib.hid fun W => hasBoth_any s.l[plc i s.l] W
  have hpl : (plc i s.l : Int) < (n : Int) := by omega
  have hpn : plc i s.l < n := by omega
  have hcap := hr.le
  have hcap2 := hr.cap
  have hpc : (plc i s.l : Int) < 9223372036854775807 := by omega
  rw [hb] at HHB
  have hc' : (s.c == 1099511627776) = true := by simpa using hc
  clear hOk hop hb hc
  generalize s.l[plc i s.l] = t at *
  generalize plc i s.l = P at *
  go_enter Try.func13, Try.ntmps13
  go_upto_region 1 with fail
  generalize (w.alloc (.cells #[.slice (some ad) n c, .int .i64 s.c, .int .i64 s.n] 28)).alloc (.cells #[.slice none 0 0, .int .i64 0, .int .i64 0] 28) = W0 at *
  go_wp2_with (first | (go_at_call 11; (with_reducible refine (HCK.out _ HB0.out).mono ?_); rintro e w1 ⟨rfl, hb1⟩; have HB1 := Lib.hid (thn HB0.out hb1); have HX1 := Lib.hid (HX.out.below hb1); have u0 := HX1.out.c0; have u1 := HX1.out.c1; have u2 := HX1.out.c2; have HY1 := Lib.hid (HY.out.below hb1); have z0 := HY1.out.c0; have z1 := HY1.out.c1; have z2 := HY1.out.c2; have zf0 := HY1.out.f0; have zf1 := HY1.out.f1; have zf2 := HY1.out.f2; clear hb1) | (go_at_call 23; (with_reducible refine (HOP.out _ HB1.out).mono ?_); rintro e w2 ⟨rfl, hb2⟩; have HB2 := Lib.hid (thn HB1.out hb2); have HX2 := Lib.hid (HX1.out.below hb2); have u0 := HX2.out.c0; have u1 := HX2.out.c1; have u2 := HX2.out.c2; have HY2 := Lib.hid (HY1.out.below hb2); have z0 := HY2.out.c0; have z1 := HY2.out.c1; have z2 := HY2.out.c2; have zf0 := HY2.out.f0; have zf1 := HY2.out.f1; have zf2 := HY2.out.f2; have HT2 := Lib.hid (HTX.out _ HB2.out); have tl := HT2.out.1; have t0 := HT2.out.2.1; have t1 := HT2.out.2.2.1; have t2 := HT2.out.2.2.2.1; have t3 := HT2.out.2.2.2.2.1; have t4 := HT2.out.2.2.2.2.2; clear hb2) | (go_at_call 24; (with_reducible refine (HHB.out _).mono ?_); rintro e w3 ⟨rfl, hb3⟩; have HB3 := Lib.hid (thn HB2.out hb3); have HX3 := Lib.hid (HX2.out.below hb3); have u0 := HX3.out.c0; have u1 := HX3.out.c1; have u2 := HX3.out.c2; have HY3 := Lib.hid (HY2.out.below hb3); have z0 := HY3.out.c0; have z1 := HY3.out.c1; have z2 := HY3.out.c2; have zf0 := HY3.out.f0; have zf1 := HY3.out.f1; have zf2 := HY3.out.f2; clear hb3))
  obtain ⟨q0, q1, q2, _, _, _⟩ := HY3.out.set3 (.slice none 0 0) (.int .i64 0) (.int .i64 0)
  exact bodyPost_ret (v := .tuple #[.agg #[.slice none 0 0, .int .i64 0, .int .i64 0], .int .i64 0, .int .i64 51]) (by simp [results, Try.results13, go_sem, q0, q1, q2]) rfl (AnsI.zero _ (((HB3.out.setCell (by simp) _).setCell (by simp) _).setCell (by simp) _))
set_option maxRecDepth 100000 in
set_option maxHeartbeats 8000000 in
theorem commit_ok (A : Option Addr) (n c : Nat) (s : St) (i : Int) (w : World) (hr : Rd w A n c s.l) (hOk : Ok s) (hP : plc i s.l < s.l.length) (hop : opnR i s.l = ((plc i s.l : Int), 0)) (hb : (s.l[plc i s.l].a && s.l[plc i s.l].o) = false) (hc : s.c ≠ 1099511627776) :
    Calls Try.prog 13 #[.agg #[.slice A n c, .int .i64 s.c, .int .i64 s.n], .int .i64 i] w (AnsI (⟨s.l.set (plc i s.l) ⟨s.l[plc i s.l].i, s.l[plc i s.l].s, s.c + 1, s.l[plc i s.l].a, s.l[plc i s.l].o⟩, s.c + 1, s.n⟩, s.c + 1, 0) w) := by
  have hlen := hr.len
  have HCK := Lib.hid fun W (hb : Below w.heap.size w W) => check_any A n c s W (hr.below hb)
  have HOP := Lib.hid fun W (hb : Below w.heap.size w W) => open_any i A n c s.l W (hr.below hb)
  obtain ⟨hx, hy, hb0⟩ := two3 w (.slice A n c) (.int .i64 s.c) (.int .i64 s.n) (.slice none 0 0) (.int .i64 0) (.int .i64 0) 28
  have HX := Lib.hid hx
  have HY := Lib.hid hy
  have HB0 := Lib.hid hb0
  have x0 := hx.c0
  have x1 := hx.c1
  have x2 := hx.c2
  have y0 := hy.c0
  have y1 := hy.c1
  have y2 := hy.c2
  have yf0 := hy.f0
  have yf1 := hy.f1
  have yf2 := hy.f2
  clear hx hy hb0
  rw [chk_ok hOk] at HCK
  have HOK : Hid (Ok ⟨s.l.set (plc i s.l) ⟨s.l[plc i s.l].i, s.l[plc i s.l].s, s.c + 1, s.l[plc i s.l].a, s.l[plc i s.l].o⟩, s.c + 1, s.n⟩) := Lib.hid (hOk.com hP (opn_e hP hop) (by have := hOk.c1; omega))
  rw [hop] at HOP
  obtain ⟨ad, rfl, htx⟩ := hr.txn hP
  have HTX := Lib.hid htx
  have HHB := Lib.hid fun W => hasBoth_any s.l[plc i s.l] W
  have hpl : (plc i s.l : Int) < (n : Int) := by omega
  have hpn : plc i s.l < n := by omega
  have hcap := hr.le
  have hcap2 := hr.cap
  have hpc : (plc i s.l : Int) < 9223372036854775807 := by omega
  have HFR := Lib.hid fun W (hb : Below w.heap.size w W) => fresh_any _ n c s W (hr.below hb) (by have := hOk.len; omega)
  have hP64 := hOk.len
  rw [hb] at HHB
  have hc' : (s.c == 1099511627776) = false := by simpa using hc
  have hc0 := hOk.c0
  have hc1 := hOk.c1
  have hc2 : s.c < 1099511627776 := by omega
  clear hOk hop hr hb hc
  have HPL := Lib.hid hP
  have HTT : Hid (s.l[plc i s.l]? = some s.l[plc i s.l]) := Lib.hid (List.getElem?_eq_getElem hP)
  generalize s.l[plc i s.l] = t at *
  generalize plc i s.l = P at *
  go_enter Try.func13, Try.ntmps13
  go_upto_region 1 with fail
  generalize (w.alloc (.cells #[.slice (some ad) n c, .int .i64 s.c, .int .i64 s.n] 28)).alloc (.cells #[.slice none 0 0, .int .i64 0, .int .i64 0] 28) = W0 at *
  go_upto_region 12 with (first | (go_at_call 11; (with_reducible refine (HCK.out _ HB0.out).mono ?_); rintro e w1 ⟨rfl, hb1⟩; have HB1 := Lib.hid (thn HB0.out hb1); have HX1 := Lib.hid (HX.out.below hb1); have u0 := HX1.out.c0; have u1 := HX1.out.c1; have u2 := HX1.out.c2; have HY1 := Lib.hid (HY.out.below hb1); have z0 := HY1.out.c0; have z1 := HY1.out.c1; have z2 := HY1.out.c2; have zf0 := HY1.out.f0; have zf1 := HY1.out.f1; have zf2 := HY1.out.f2; clear hb1) | (go_at_call 23; (with_reducible refine (HOP.out _ HB1.out).mono ?_); rintro e w2 ⟨rfl, hb2⟩; have HB2 := Lib.hid (thn HB1.out hb2); have HX2 := Lib.hid (HX1.out.below hb2); have u0 := HX2.out.c0; have u1 := HX2.out.c1; have u2 := HX2.out.c2; have HY2 := Lib.hid (HY1.out.below hb2); have z0 := HY2.out.c0; have z1 := HY2.out.c1; have z2 := HY2.out.c2; have zf0 := HY2.out.f0; have zf1 := HY2.out.f1; have zf2 := HY2.out.f2; have HT2 := Lib.hid (HTX.out _ HB2.out); have tl := HT2.out.1; have t0 := HT2.out.2.1; have t1 := HT2.out.2.2.1; have t2 := HT2.out.2.2.2.1; have t3 := HT2.out.2.2.2.2.1; have t4 := HT2.out.2.2.2.2.2; clear hb2) | (go_at_call 24; (with_reducible refine (HHB.out _).mono ?_); rintro e w3 ⟨rfl, hb3⟩; have HB3 := Lib.hid (thn HB2.out hb3); have HX3 := Lib.hid (HX2.out.below hb3); have u0 := HX3.out.c0; have u1 := HX3.out.c1; have u2 := HX3.out.c2; have HY3 := Lib.hid (HY2.out.below hb3); have z0 := HY3.out.c0; have z1 := HY3.out.c1; have z2 := HY3.out.c2; have zf0 := HY3.out.f0; have zf1 := HY3.out.f1; have zf2 := HY3.out.f2; clear hb3) | (go_at_call 17; (with_reducible refine (HFR.out _ HB3.out).mono ?_); rintro e w4 ⟨g, rfl, hown, hg, hgl, hb4⟩; have HB4 := Lib.hid (thn HB3.out hb4); have HX4 := Lib.hid (HX3.out.below hb4); have HY4 := Lib.hid (HY3.out.below hb4); have HO4 := Lib.hid (row_of_own hown); have HG := Lib.hid hg; have HGL := Lib.hid hgl; clear hb4 hown hg hgl))
  have HB5 := Lib.hid (thn HB4.out (below1 w4 (.cells #[.slice (some ⟨g, 0, none⟩) n n, .int .i64 s.c, .int .i64 s.n] 28)))
  have HY5 := Lib.hid (HY4.out.below (below1 w4 (.cells #[.slice (some ⟨g, 0, none⟩) n n, .int .i64 s.c, .int .i64 s.n] 28)))
  have HZ5 := Lib.hid (Bx.new w4 (.slice (some ⟨g, 0, none⟩) n n) (.int .i64 s.c) (.int .i64 s.n) 28)
  have HO5 := Lib.hid (HO4.out.below (below1 w4 (.cells #[.slice (some ⟨g, 0, none⟩) n n, .int .i64 s.c, .int .i64 s.n] 28)))
  have hly := HY3.out.lt
  have hlg := HG.out
  have hll := HGL.out
  have HN1 := Lib.hid (show w.heap.size + 1 < g by omega)
  have HN2 := Lib.hid (show g < w4.heap.size from hll)
  clear HX4 HY4 HG HGL HB1 HB2 HX1 HY1 HX2 HY2 HT2 HB4 HO4 u0 u1 u2 z0 z1 z2 zf0 zf1 zf2 x0 x1 x2 y0 y1 y2 yf0 yf1 yf2 HX HY HB0 hly hlg hll tl t0 t1 t2 t3 t4
  generalize w4.alloc (.cells #[.slice (some ⟨g, 0, none⟩) n n, .int .i64 s.c, .int .i64 s.n] 28) = W5 at *
  generalize w4.heap.size = gn at *
  have z1 := HZ5.out.c1
  have zf1 := HZ5.out.f1
  go_upto_region 13 with fail
  have HY6 := Lib.hid (HY5.out.other ⟨gn, 1, none⟩ (.int .i64 (s.c + 1)) (by simp; have := HN1.out; have := HN2.out; omega))
  have HZ6 := Lib.hid (HZ5.out.set1 (.int .i64 (s.c + 1)))
  have HO6 := Lib.hid (HO5.out.other ⟨gn, 1, none⟩ (.int .i64 (s.c + 1)) (by simp; have := HN2.out; omega))
  have HB6 := Lib.hid (HB5.out.setCell (p := ⟨gn, 1, none⟩) (by have := HN1.out; have := HN2.out; simp; omega) (.int .i64 (s.c + 1)))
  clear HY5 HZ5 HO5 HB5 z1 zf1
  generalize W5.setCell ⟨gn, 1, none⟩ (.int .i64 (s.c + 1)) = W6 at *
  have z0 := HZ6.out.c0
  have z1 := HZ6.out.c1
  obtain ⟨r0, r1, r2, r3, r4, rf0, rf1, rf2, rf3, rf4⟩ := HO6.out.at_ HPL.out
  have hgl := HO6.out.lt (by have := HPL.out; omega)
  clear r0 r1 r3 r4 rf0 rf1 rf3 rf4
  go_upto_region 14 with fail
  have HY7 := Lib.hid (HY6.out.other ⟨g, P * 5 + 2, none⟩ (.int .i64 (s.c + 1)) (by simp; have := HN1.out; omega))
  have HZ7 := Lib.hid (HZ6.out.other ⟨g, P * 5 + 2, none⟩ (.int .i64 (s.c + 1)) (by simp; have := HN2.out; omega))
  have HO7 := Lib.hid (HO6.out.putu t ⟨t.i, t.s, s.c + 1, t.a, t.o⟩ HTT.out 2 (by omega) (.int .i64 (s.c + 1)) rfl (fun r hr => by
    rcases (show r = 0 ∨ r = 1 ∨ r = 3 ∨ r = 4 ∨ 5 ≤ r by omega) with rfl | rfl | rfl | rfl | h
    · rfl
    · rfl
    · rfl
    · rfl
    · rw [List.getElem?_eq_none (by simp; omega), List.getElem?_eq_none (by simp; omega)]))
  have HB7 := Lib.hid (HB6.out.setCell (p := ⟨g, P * 5 + 2, none⟩) (by have := HN1.out; simp; omega) (.int .i64 (s.c + 1)))
  clear HY6 HZ6 HO6 HB6 z0 z1 r2 rf2 hgl
  generalize W6.setCell ⟨g, P * 5 + 2, none⟩ (.int .i64 (s.c + 1)) = W7 at *
  obtain ⟨z0, z1, z2, _, _, _⟩ := HZ7.out
  obtain ⟨y0, y1, y2, yf0, yf1, yf2⟩ := HY7.out
  have hne1 : ¬ w.heap.size + 1 = gn := by have := HN1.out; have := HN2.out; omega
  have hne2 : ¬ gn = w.heap.size + 1 := by omega
  go_region
  have HO8 := Lib.hid (((HO7.out.other ⟨w.heap.size + 1, 0, none⟩ (.slice (some ⟨g, 0, none⟩) n n) (by have := HN1.out; simp; omega)).other ⟨w.heap.size + 1, 1, none⟩ (.int .i64 (s.c + 1)) (by have := HN1.out; simp; omega)).other ⟨w.heap.size + 1, 2, none⟩ (.int .i64 s.n) (by have := HN1.out; simp; omega))
  have HR8 := Lib.hid ((HO8.out.below (Below.refl _ _).drew).rd (n := n) (by simp; omega) (by omega) HOK.out.rng)
  obtain ⟨q0, q1, q2, _, _, _⟩ := HY7.out.set3 (.slice (some ⟨g, 0, none⟩) n n) (.int .i64 (s.c + 1)) (.int .i64 s.n)
  have HB8 := Lib.hid (((HB7.out.setCell (p := ⟨w.heap.size + 1, 0, none⟩) (by simp) (.slice (some ⟨g, 0, none⟩) n n)).setCell (p := ⟨w.heap.size + 1, 1, none⟩) (by simp) (.int .i64 (s.c + 1))).setCell (p := ⟨w.heap.size + 1, 2, none⟩) (by simp) (.int .i64 s.n)).drew
  go_wp2_with fail
  generalize ((W7.setCell ⟨w.heap.size + 1, 0, none⟩ (.slice (some ⟨g, 0, none⟩) n n)).setCell ⟨w.heap.size + 1, 1, none⟩ (.int .i64 (s.c + 1))).setCell ⟨w.heap.size + 1, 2, none⟩ (.int .i64 s.n) = W8 at *
  have p0 : W8.drew.cell? ⟨w.heap.size + 1, 0, none⟩ = some (.slice (some ⟨g, 0, none⟩) n n) := q0
  have p1 : W8.drew.cell? ⟨w.heap.size + 1, 1, none⟩ = some (.int .i64 (s.c + 1)) := q1
  have p2 : W8.drew.cell? ⟨w.heap.size + 1, 2, none⟩ = some (.int .i64 s.n) := q2
  exact bodyPost_ret (v := .tuple #[.agg #[.slice (some ⟨g, 0, none⟩) n n, .int .i64 (s.c + 1), .int .i64 s.n], .int .i64 (s.c + 1), .int .i64 0]) (by simp [results, Try.results13, go_sem, p0, p1, p2]) rfl ⟨_, n, n, rfl, HR8.out, HB8.out⟩
theorem commit_any (A : Option Addr) (n c : Nat) (s : St) (i : Int) (w : World) (hr : Rd w A n c s.l) :
    Calls Try.prog 13 #[.agg #[.slice A n c, .int .i64 s.c, .int .i64 s.n], .int .i64 i] w (AnsI (comR s i) w) := by
  by_cases hOk : Ok s
  · by_cases hP : plc i s.l < s.l.length
    · by_cases h0 : s.l[plc i s.l].e ≠ 0
      · have e : comR s i = (zS, 0, 9) := by unfold comR; rw [if_pos hOk, dif_pos hP, if_pos h0]
        rw [e]
        exact commit_no A n c s i w hr 9 (.inr ⟨hOk, by unfold opnR; rw [dif_pos hP, if_pos h0], by decide⟩)
      · have hop : opnR i s.l = ((plc i s.l : Int), 0) := by unfold opnR; rw [dif_pos hP, if_neg h0]
        cases hb : (s.l[plc i s.l].a && s.l[plc i s.l].o)
        · by_cases hc : s.c = 1099511627776
          · have e : comR s i = (zS, 0, 51) := by unfold comR; rw [if_pos hOk, dif_pos hP, if_neg h0, if_neg (by rw [hb]; simp), if_pos hc]
            rw [e]
            exact commit_full A n c s i w hr hOk hP hop hb hc
          · have e : comR s i = (⟨s.l.set (plc i s.l) ⟨s.l[plc i s.l].i, s.l[plc i s.l].s, s.c + 1, s.l[plc i s.l].a, s.l[plc i s.l].o⟩, s.c + 1, s.n⟩, s.c + 1, 0) := by unfold comR; rw [if_pos hOk, dif_pos hP, if_neg h0, if_neg (by rw [hb]; simp), if_neg hc]
            rw [e]
            exact commit_ok A n c s i w hr hOk hP hop hb hc
        · have e : comR s i = (zS, 0, 96) := by unfold comR; rw [if_pos hOk, dif_pos hP, if_neg h0, if_pos hb]
          rw [e]
          exact commit_both A n c s i w hr hOk hP hop hb
    · have e : comR s i = (zS, 0, 71) := by unfold comR; rw [if_pos hOk, dif_neg hP]
      rw [e]
      exact commit_no A n c s i w hr 71 (.inr ⟨hOk, by unfold opnR; rw [dif_neg hP], by decide⟩)
  · have e : comR s i = (zS, 0, 9) := if_neg hOk
    rw [e]
    exact commit_no A n c s i w hr 9 (.inl ⟨hOk, rfl⟩)
set_option maxRecDepth 100000 in
set_option maxHeartbeats 4000000 in
/-- Abort refuses. -/
theorem abort_no (A : Option Addr) (n c : Nat) (s : St) (i : Int) (w : World) (hr : Rd w A n c s.l) (E : Int) (hE : (¬ Ok s ∧ E = 9) ∨ (Ok s ∧ (opnR i s.l).2 = E ∧ E ≠ 0)) :
    Calls Try.prog 14 #[.agg #[.slice A n c, .int .i64 s.c, .int .i64 s.n], .int .i64 i] w (AnsE (zS, E) w) := by
  have hlen := hr.len
  have HCK := Lib.hid fun W (hb : Below w.heap.size w W) => check_any A n c s W (hr.below hb)
  have HOP := Lib.hid fun W (hb : Below w.heap.size w W) => open_any i A n c s.l W (hr.below hb)
  obtain ⟨hx, hy, hb0⟩ := two3 w (.slice A n c) (.int .i64 s.c) (.int .i64 s.n) (.slice none 0 0) (.int .i64 0) (.int .i64 0) 28
  have HX := Lib.hid hx
  have HY := Lib.hid hy
  have HB0 := Lib.hid hb0
  have x0 := hx.c0
  have x1 := hx.c1
  have x2 := hx.c2
  have y0 := hy.c0
  have y1 := hy.c1
  have y2 := hy.c2
  have yf0 := hy.f0
  have yf1 := hy.f1
  have yf2 := hy.f2
  clear hx hy hb0
  rcases hE with ⟨hOk, rfl⟩ | ⟨hOk, hE, h0⟩
  · rw [chk_bad hOk] at HCK
    clear hOk
    go_enter Try.func14, Try.ntmps14
    go_upto_region 1 with fail
    generalize (w.alloc (.cells #[.slice A n c, .int .i64 s.c, .int .i64 s.n] 28)).alloc (.cells #[.slice none 0 0, .int .i64 0, .int .i64 0] 28) = W0 at *
    go_wp2_with (first | (go_at_call 11; (with_reducible refine (HCK.out _ HB0.out).mono ?_); rintro e w1 ⟨rfl, hb1⟩; have HB1 := Lib.hid (thn HB0.out hb1); have HX1 := Lib.hid (HX.out.below hb1); have u0 := HX1.out.c0; have u1 := HX1.out.c1; have u2 := HX1.out.c2; have HY1 := Lib.hid (HY.out.below hb1); have z0 := HY1.out.c0; have z1 := HY1.out.c1; have z2 := HY1.out.c2; have zf0 := HY1.out.f0; have zf1 := HY1.out.f1; have zf2 := HY1.out.f2; clear hb1))
    obtain ⟨q0, q1, q2, _, _, _⟩ := HY1.out.set3 (.slice none 0 0) (.int .i64 0) (.int .i64 0)
    exact bodyPost_ret (v := .tuple #[.agg #[.slice none 0 0, .int .i64 0, .int .i64 0], .int .i64 9]) (by simp [results, Try.results14, go_sem, q0, q1, q2]) rfl (AnsE.zero _ (((HB1.out.setCell (by simp) _).setCell (by simp) _).setCell (by simp) _))
  · rw [chk_ok hOk] at HCK
    generalize opnR i s.l = O at *
    obtain ⟨P, F⟩ := O
    simp only at HOP hE
    subst hE
    have h0' : (F != 0) = true := by simpa using h0
    clear h0 hOk
    go_enter Try.func14, Try.ntmps14
    go_upto_region 1 with fail
    generalize (w.alloc (.cells #[.slice A n c, .int .i64 s.c, .int .i64 s.n] 28)).alloc (.cells #[.slice none 0 0, .int .i64 0, .int .i64 0] 28) = W0 at *
    go_wp2_with (first | (go_at_call 11; (with_reducible refine (HCK.out _ HB0.out).mono ?_); rintro e w1 ⟨rfl, hb1⟩; have HB1 := Lib.hid (thn HB0.out hb1); have HX1 := Lib.hid (HX.out.below hb1); have u0 := HX1.out.c0; have u1 := HX1.out.c1; have u2 := HX1.out.c2; have HY1 := Lib.hid (HY.out.below hb1); have z0 := HY1.out.c0; have z1 := HY1.out.c1; have z2 := HY1.out.c2; have zf0 := HY1.out.f0; have zf1 := HY1.out.f1; have zf2 := HY1.out.f2; clear hb1) | (go_at_call 23; (with_reducible refine (HOP.out _ HB1.out).mono ?_); rintro e w2 ⟨rfl, hb2⟩; have HB2 := Lib.hid (thn HB1.out hb2); have HX2 := Lib.hid (HX1.out.below hb2); have u0 := HX2.out.c0; have u1 := HX2.out.c1; have u2 := HX2.out.c2; have HY2 := Lib.hid (HY1.out.below hb2); have z0 := HY2.out.c0; have z1 := HY2.out.c1; have z2 := HY2.out.c2; have zf0 := HY2.out.f0; have zf1 := HY2.out.f1; have zf2 := HY2.out.f2; clear hb2))
    obtain ⟨q0, q1, q2, _, _, _⟩ := HY2.out.set3 (.slice none 0 0) (.int .i64 0) (.int .i64 0)
    exact bodyPost_ret (v := .tuple #[.agg #[.slice none 0 0, .int .i64 0, .int .i64 0], .int .i64 F]) (by simp [results, Try.results14, go_sem, q0, q1, q2]) rfl (AnsE.zero _ (((HB2.out.setCell (by simp) _).setCell (by simp) _).setCell (by simp) _))
set_option maxRecDepth 100000 in
set_option maxHeartbeats 8000000 in
theorem abort_ok (A : Option Addr) (n c : Nat) (s : St) (i : Int) (w : World) (hr : Rd w A n c s.l) (hOk : Ok s) (hP : plc i s.l < s.l.length) (hop : opnR i s.l = ((plc i s.l : Int), 0))  :
    Calls Try.prog 14 #[.agg #[.slice A n c, .int .i64 s.c, .int .i64 s.n], .int .i64 i] w (AnsE (⟨s.l.set (plc i s.l) ⟨s.l[plc i s.l].i, s.l[plc i s.l].s, -1, s.l[plc i s.l].a, s.l[plc i s.l].o⟩, s.c, s.n⟩, 0) w) := by
  have hlen := hr.len
  have HCK := Lib.hid fun W (hb : Below w.heap.size w W) => check_any A n c s W (hr.below hb)
  have HOP := Lib.hid fun W (hb : Below w.heap.size w W) => open_any i A n c s.l W (hr.below hb)
  obtain ⟨hx, hy, hb0⟩ := two3 w (.slice A n c) (.int .i64 s.c) (.int .i64 s.n) (.slice none 0 0) (.int .i64 0) (.int .i64 0) 28
  have HX := Lib.hid hx
  have HY := Lib.hid hy
  have HB0 := Lib.hid hb0
  have x0 := hx.c0
  have x1 := hx.c1
  have x2 := hx.c2
  have y0 := hy.c0
  have y1 := hy.c1
  have y2 := hy.c2
  have yf0 := hy.f0
  have yf1 := hy.f1
  have yf2 := hy.f2
  clear hx hy hb0
  rw [chk_ok hOk] at HCK
  have HOK : Hid (Ok ⟨s.l.set (plc i s.l) ⟨s.l[plc i s.l].i, s.l[plc i s.l].s, -1, s.l[plc i s.l].a, s.l[plc i s.l].o⟩, s.c, s.n⟩) := Lib.hid (hOk.abo hP)
  rw [hop] at HOP
  obtain ⟨ad, rfl, htx⟩ := hr.txn hP
  have HTX := Lib.hid htx
  have HHB := Lib.hid fun W => hasBoth_any s.l[plc i s.l] W
  have hpl : (plc i s.l : Int) < (n : Int) := by omega
  have hpn : plc i s.l < n := by omega
  have hcap := hr.le
  have hcap2 := hr.cap
  have hpc : (plc i s.l : Int) < 9223372036854775807 := by omega
  have HFR := Lib.hid fun W (hb : Below w.heap.size w W) => fresh_any _ n c s W (hr.below hb) (by have := hOk.len; omega)
  have hP64 := hOk.len
  clear hOk hop hr 
  have HPL := Lib.hid hP
  have HTT : Hid (s.l[plc i s.l]? = some s.l[plc i s.l]) := Lib.hid (List.getElem?_eq_getElem hP)
  generalize s.l[plc i s.l] = t at *
  generalize plc i s.l = P at *
  go_enter Try.func14, Try.ntmps14
  go_upto_region 1 with fail
  generalize (w.alloc (.cells #[.slice (some ad) n c, .int .i64 s.c, .int .i64 s.n] 28)).alloc (.cells #[.slice none 0 0, .int .i64 0, .int .i64 0] 28) = W0 at *
  go_upto_region 8 with (first | (go_at_call 11; (with_reducible refine (HCK.out _ HB0.out).mono ?_); rintro e w1 ⟨rfl, hb1⟩; have HB1 := Lib.hid (thn HB0.out hb1); have HX1 := Lib.hid (HX.out.below hb1); have u0 := HX1.out.c0; have u1 := HX1.out.c1; have u2 := HX1.out.c2; have HY1 := Lib.hid (HY.out.below hb1); have z0 := HY1.out.c0; have z1 := HY1.out.c1; have z2 := HY1.out.c2; have zf0 := HY1.out.f0; have zf1 := HY1.out.f1; have zf2 := HY1.out.f2; clear hb1) | (go_at_call 23; (with_reducible refine (HOP.out _ HB1.out).mono ?_); rintro e w2 ⟨rfl, hb2⟩; have HB2 := Lib.hid (thn HB1.out hb2); have HX2 := Lib.hid (HX1.out.below hb2); have u0 := HX2.out.c0; have u1 := HX2.out.c1; have u2 := HX2.out.c2; have HY2 := Lib.hid (HY1.out.below hb2); have z0 := HY2.out.c0; have z1 := HY2.out.c1; have z2 := HY2.out.c2; have zf0 := HY2.out.f0; have zf1 := HY2.out.f1; have zf2 := HY2.out.f2; have HT2 := Lib.hid (HTX.out _ HB2.out); have tl := HT2.out.1; have t0 := HT2.out.2.1; have t1 := HT2.out.2.2.1; have t2 := HT2.out.2.2.2.1; have t3 := HT2.out.2.2.2.2.1; have t4 := HT2.out.2.2.2.2.2; clear hb2) | (go_at_call 17; (with_reducible refine (HFR.out _ HB2.out).mono ?_); rintro e w4 ⟨g, rfl, hown, hg, hgl, hb4⟩; have HB4 := Lib.hid (thn HB2.out hb4); have HX4 := Lib.hid (HX2.out.below hb4); have HY4 := Lib.hid (HY2.out.below hb4); have HO4 := Lib.hid (row_of_own hown); have HG := Lib.hid hg; have HGL := Lib.hid hgl; clear hb4 hown hg hgl))
  have HB5 := Lib.hid (thn HB4.out (below1 w4 (.cells #[.slice (some ⟨g, 0, none⟩) n n, .int .i64 s.c, .int .i64 s.n] 28)))
  have HY5 := Lib.hid (HY4.out.below (below1 w4 (.cells #[.slice (some ⟨g, 0, none⟩) n n, .int .i64 s.c, .int .i64 s.n] 28)))
  have HZ5 := Lib.hid (Bx.new w4 (.slice (some ⟨g, 0, none⟩) n n) (.int .i64 s.c) (.int .i64 s.n) 28)
  have HO5 := Lib.hid (HO4.out.below (below1 w4 (.cells #[.slice (some ⟨g, 0, none⟩) n n, .int .i64 s.c, .int .i64 s.n] 28)))
  have hly := HY2.out.lt
  have hlg := HG.out
  have hll := HGL.out
  have HN1 := Lib.hid (show w.heap.size + 1 < g by omega)
  have HN2 := Lib.hid (show g < w4.heap.size from hll)
  clear HX4 HY4 HG HGL HB1 HB2 HX1 HY1 HX2 HY2 HT2 HB4 HO4 u0 u1 u2 z0 z1 z2 zf0 zf1 zf2 x0 x1 x2 y0 y1 y2 yf0 yf1 yf2 HX HY HB0 hly hlg hll tl t0 t1 t2 t3 t4
  generalize w4.alloc (.cells #[.slice (some ⟨g, 0, none⟩) n n, .int .i64 s.c, .int .i64 s.n] 28) = W5 at *
  generalize w4.heap.size = gn at *
  have HY6 := HY5
  have HZ6 := HZ5
  have HO6 := HO5
  have HB6 := HB5
  clear HY5 HZ5 HO5 HB5
  have hW : W5 = W5 := rfl
  have z0 := HZ6.out.c0
  have z1 := HZ6.out.c1
  obtain ⟨r0, r1, r2, r3, r4, rf0, rf1, rf2, rf3, rf4⟩ := HO6.out.at_ HPL.out
  have hgl := HO6.out.lt (by have := HPL.out; omega)
  clear r0 r1 r3 r4 rf0 rf1 rf3 rf4
  go_upto_region 9 with fail
  have HY7 := Lib.hid (HY6.out.other ⟨g, P * 5 + 2, none⟩ (.int .i64 (-1)) (by simp; have := HN1.out; omega))
  have HZ7 := Lib.hid (HZ6.out.other ⟨g, P * 5 + 2, none⟩ (.int .i64 (-1)) (by simp; have := HN2.out; omega))
  have HO7 := Lib.hid (HO6.out.putu t ⟨t.i, t.s, -1, t.a, t.o⟩ HTT.out 2 (by omega) (.int .i64 (-1)) rfl (fun r hr => by
    rcases (show r = 0 ∨ r = 1 ∨ r = 3 ∨ r = 4 ∨ 5 ≤ r by omega) with rfl | rfl | rfl | rfl | h
    · rfl
    · rfl
    · rfl
    · rfl
    · rw [List.getElem?_eq_none (by simp; omega), List.getElem?_eq_none (by simp; omega)]))
  have HB7 := Lib.hid (HB6.out.setCell (p := ⟨g, P * 5 + 2, none⟩) (by have := HN1.out; simp; omega) (.int .i64 (-1)))
  clear HY6 HZ6 HO6 HB6 z0 z1 r2 rf2 hgl
  generalize W5.setCell ⟨g, P * 5 + 2, none⟩ (.int .i64 (-1)) = W7 at *
  obtain ⟨z0, z1, z2, _, _, _⟩ := HZ7.out
  obtain ⟨y0, y1, y2, yf0, yf1, yf2⟩ := HY7.out
  have HO8 := Lib.hid (((HO7.out.other ⟨w.heap.size + 1, 0, none⟩ (.slice (some ⟨g, 0, none⟩) n n) (by have := HN1.out; simp; omega)).other ⟨w.heap.size + 1, 1, none⟩ (.int .i64 s.c) (by have := HN1.out; simp; omega)).other ⟨w.heap.size + 1, 2, none⟩ (.int .i64 s.n) (by have := HN1.out; simp; omega))
  have HR8 := Lib.hid ((HO8.out).rd (n := n) (by simp; omega) (by omega) HOK.out.rng)
  obtain ⟨q0, q1, q2, _, _, _⟩ := HY7.out.set3 (.slice (some ⟨g, 0, none⟩) n n) (.int .i64 s.c) (.int .i64 s.n)
  have HB8 := Lib.hid (((HB7.out.setCell (p := ⟨w.heap.size + 1, 0, none⟩) (by simp) (.slice (some ⟨g, 0, none⟩) n n)).setCell (p := ⟨w.heap.size + 1, 1, none⟩) (by simp) (.int .i64 s.c)).setCell (p := ⟨w.heap.size + 1, 2, none⟩) (by simp) (.int .i64 s.n))
  go_wp2_with fail
  generalize ((W7.setCell ⟨w.heap.size + 1, 0, none⟩ (.slice (some ⟨g, 0, none⟩) n n)).setCell ⟨w.heap.size + 1, 1, none⟩ (.int .i64 s.c)).setCell ⟨w.heap.size + 1, 2, none⟩ (.int .i64 s.n) = W8 at *
  have p0 : W8.cell? ⟨w.heap.size + 1, 0, none⟩ = some (.slice (some ⟨g, 0, none⟩) n n) := q0
  have p1 : W8.cell? ⟨w.heap.size + 1, 1, none⟩ = some (.int .i64 s.c) := q1
  have p2 : W8.cell? ⟨w.heap.size + 1, 2, none⟩ = some (.int .i64 s.n) := q2
  exact bodyPost_ret (v := .tuple #[.agg #[.slice (some ⟨g, 0, none⟩) n n, .int .i64 s.c, .int .i64 s.n], .int .i64 0]) (by simp [results, Try.results14, go_sem, p0, p1, p2]) rfl ⟨_, n, n, rfl, HR8.out, HB8.out⟩
theorem abort_any (A : Option Addr) (n c : Nat) (s : St) (i : Int) (w : World) (hr : Rd w A n c s.l) :
    Calls Try.prog 14 #[.agg #[.slice A n c, .int .i64 s.c, .int .i64 s.n], .int .i64 i] w (AnsE (aboR s i) w) := by
  by_cases hOk : Ok s
  · by_cases hP : plc i s.l < s.l.length
    · by_cases h0 : s.l[plc i s.l].e ≠ 0
      · have e : aboR s i = (zS, 9) := by unfold aboR; rw [if_pos hOk, dif_pos hP, if_pos h0]
        rw [e]
        exact abort_no A n c s i w hr 9 (.inr ⟨hOk, by unfold opnR; rw [dif_pos hP, if_pos h0], by decide⟩)
      · have hop : opnR i s.l = ((plc i s.l : Int), 0) := by unfold opnR; rw [dif_pos hP, if_neg h0]
        have e : aboR s i = (⟨s.l.set (plc i s.l) ⟨s.l[plc i s.l].i, s.l[plc i s.l].s, -1, s.l[plc i s.l].a, s.l[plc i s.l].o⟩, s.c, s.n⟩, 0) := by unfold aboR; rw [if_pos hOk, dif_pos hP, if_neg h0]
        rw [e]
        exact abort_ok A n c s i w hr hOk hP hop
    · have e : aboR s i = (zS, 71) := by unfold aboR; rw [if_pos hOk, dif_neg hP]
      rw [e]
      exact abort_no A n c s i w hr 71 (.inr ⟨hOk, by unfold opnR; rw [dif_neg hP], by decide⟩)
  · have e : aboR s i = (zS, 9) := if_neg hOk
    rw [e]
    exact abort_no A n c s i w hr 9 (.inl ⟨hOk, rfl⟩)
end Go.Proofs.Ytlcmpngjmmbkcaa
