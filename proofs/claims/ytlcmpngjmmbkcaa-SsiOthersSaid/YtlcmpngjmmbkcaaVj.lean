/- What Edge of package ssi makes of any state: the walk. Conditions: a state that is read in memory. -/
import Derived.Test.YtlcmpngjmmbkcaaVi
namespace Go.Proofs.Ytlcmpngjmmbkcaa
open Go.RowKit Go.Sort Go.Maps
set_option linter.unusedSimpArgs false
set_option linter.unusedVariables false

open Classical in
/-- What Edge answers. -/
noncomputable def edgR (s : St) (r v : Int) : St × List Int × Int :=
  if Ok s then (if h : plc r s.l < s.l.length ∧ plc v s.l < s.l.length then (if r = v ∨ onceB (s.l[plc r s.l]'h.1) (s.l[plc v s.l]'h.2) = false then (s, [], 0) else
    (⟨(draR s.l (plc r s.l) (plc v s.l) (s.l[plc r s.l]'h.1) (s.l[plc v s.l]'h.2)).1, s.c, s.n⟩, (draR s.l (plc r s.l) (plc v s.l) (s.l[plc r s.l]'h.1) (s.l[plc v s.l]'h.2)).2, 0)) else (zS, [], 71)) else (zS, [], 9)
/-- The slice at A reads as the numbers l. -/
structure RdI (w : World) (A : Option Addr) (n c : Nat) (l : List Int) : Prop where
  len : l.length = n
  le : n ≤ c
  cap : c ≤ 9223372036854775807
  nil : A = none → n = 0 ∧ c = 0
  cells : ∀ ad, A = some ad → ∀ (j : Nat) (v : Int), l[j]? = some v → w.cell? (ad.add j) = some (.int .i64 v)
theorem RdI.below {w w' : World} {A : Option Addr} {n c : Nat} {l : List Int} (h : RdI w A n c l) (hb : Below w.heap.size w w') : RdI w' A n c l :=
  ⟨h.len, h.le, h.cap, h.nil, fun ad e j v hj => cell_keep (h.cells ad e j v hj) hb⟩
theorem RdI.at_ {w : World} {A : Option Addr} {n c : Nat} {l : List Int} (h : RdI w A n c l) {k : Nat} (hk : k < l.length) : ∃ ad, A = some ad ∧ w.cell? (ad.add k) = some (.int .i64 l[k]) := by
  cases A with
  | none => have := (h.nil rfl).1; have := h.len; omega
  | some ad => exact ⟨ad, rfl, h.cells ad rfl k _ (List.getElem?_eq_getElem hk)⟩
theorem RdI.nothing (w : World) : RdI w none 0 0 [] := ⟨rfl, Nat.le_refl _, by omega, fun _ => ⟨rfl, rfl⟩, fun ad e => by cases e⟩
theorem RdI.of_own {w : World} {base n : Nat} {e : TypeId} {v : Value} {l : List Int} (h : w.ownsRow base e 1 v n (ints l)) : ∃ A c, v = .slice A n c ∧ RdI w A n c l := by
  have hl : l.length = n := by have := h.1; simp [ints] at this; omega
  rcases h.2 with ⟨rfl, h0⟩ | ⟨g, cap, cur, rfl, _, _, hc, hm, _⟩
  · have : l = [] := List.eq_nil_of_length_eq_zero (by omega)
    subst this
    subst hl
    exact ⟨none, 0, rfl, RdI.nothing w⟩
  · refine ⟨_, cap, rfl, hl, hc, by unfold maxLen at hm; exact hm, (fun e => by cases e), fun ad e j u hj => ?_⟩
    injection e with e
    subst e
    exact h.cells (g := g) rfl j _ (by simp [ints, hj])
/-- A state, numbers and an error. -/
def AnsL (R : St × List Int × Int) (w : World) (e : Ending) (w' : World) : Prop := ∃ A n c B m d, e = .returned (.tuple #[.agg #[.slice A n c, .int .i64 R.1.c, .int .i64 R.1.n], .slice B m d, .int .i64 R.2.2]) ∧ Rd w' A n c R.1.l ∧ RdI w' B m d R.2.1 ∧ Below w.heap.size w w'
theorem AnsL.zero {w w' : World} (E : Int) (hb : Below w.heap.size w w') : AnsL (zS, [], E) w (.returned (.tuple #[.agg #[.slice none 0 0, .int .i64 0, .int .i64 0], .slice none 0 0, .int .i64 E])) w' := ⟨none, 0, 0, none, 0, 0, rfl, Rd.nothing _, RdI.nothing _, hb⟩
theorem st2 {W : World} {r : Nat} {u0 u1 : Value} (h0 : W.cell? ⟨r, 0, none⟩ = some u0) (h1 : W.cell? ⟨r, 1, none⟩ = some u1) (v0 v1 : Value) :
    ((W.setCell ⟨r, 0, none⟩ v0).setCell ⟨r, 1, none⟩ v1).cell? ⟨r, 0, none⟩ = some v0 ∧ ((W.setCell ⟨r, 0, none⟩ v0).setCell ⟨r, 1, none⟩ v1).cell? ⟨r, 1, none⟩ = some v1 :=
  ⟨(World.cell?_setCell_other _ _ _ _ (by simp)).trans (set_same _ h0), set_same _ ((World.cell?_setCell_other _ _ _ _ (by simp)).trans h1)⟩
theorem new2_keep {W w2 : World} {v u : Value} {t : TypeId} (hb : Below (W.alloc (.cells #[v, u] t)).heap.size (W.alloc (.cells #[v, u] t)) w2) : w2.cell? ⟨W.heap.size, 0, none⟩ = some v ∧ w2.cell? ⟨W.heap.size, 1, none⟩ = some u ∧ w2.frozen? ⟨W.heap.size, 0, none⟩ = false ∧ w2.frozen? ⟨W.heap.size, 1, none⟩ = false :=
  ⟨cell_keep (cell_last W _ _ _ 0 rfl) hb, cell_keep (cell_last W _ _ _ 1 rfl) hb, (hb.frozen (p := ⟨W.heap.size, 0, none⟩) (by simp)).trans (World.frozen?_alloc_at #[v, u] _ _ 0 rfl), (hb.frozen (p := ⟨W.heap.size, 1, none⟩) (by simp)).trans (World.frozen?_alloc_at #[v, u] _ _ 1 rfl)⟩
theorem new2_keepD {W w2 : World} {v u : Value} {t : TypeId} (hb : Below (W.alloc (.cells #[v, u] t)).drew.heap.size (W.alloc (.cells #[v, u] t)).drew w2) : w2.cell? ⟨W.heap.size, 0, none⟩ = some v ∧ w2.cell? ⟨W.heap.size, 1, none⟩ = some u ∧ w2.frozen? ⟨W.heap.size, 0, none⟩ = false ∧ w2.frozen? ⟨W.heap.size, 1, none⟩ = false :=
  new2_keep (W := W) (v := v) (u := u) (t := t) ⟨hb.os, hb.tape, hb.output, hb.size, hb.block⟩
theorem RdI.of_own' {w : World} {B n c : Nat} {e : TypeId} {A : Option Addr} {l : List Int} (h : w.ownsRow B e 1 (.slice A n c) n (ints l)) : RdI w A n c l := by
  obtain ⟨A', c', e, hr⟩ := RdI.of_own h
  injection e with e1 e2 e3
  subst e1 e3
  exact hr
theorem draR_kept {l : List Tx} {P Q : Nat} {x y : Tx} (hx : l[P]? = some x) (hy : l[Q]? = some y) (hPQ : P ≠ Q) : Kept l (draR l P Q x y).1 := by
  have h1 := (rnd_kept (M := []) fO_kept hx hy).1
  have h2 := rnd_far (f := fO) (M := []) hx hy hPQ
  obtain ⟨x', hx', _⟩ := h1.all P x hx
  exact h1.trans (rnd_kept (M := (rnd fO P Q (l, [])).2) fI_kept h2 hx').1
theorem Ok.kept {s : St} (h : Ok s) {m : List Tx} (k : Kept s.l m) : Ok ⟨m, s.c, s.n⟩ := h.flags k.len fun j h1 h2 => by
  obtain ⟨u, hu, e1, e2, e3⟩ := k.all j _ (List.getElem?_eq_getElem h2)
  have := (List.getElem?_eq_some_iff.1 hu).2
  rw [this]
  exact ⟨e1, e2, e3⟩
/-- What a cell holds. -/
def ct (W : World) (p : Addr) : Value := (W.cell? p).getD (.bool false)
theorem ct_of {W : World} {p : Addr} {v : Value} (h : W.cell? p = some v) : W.cell? p = some (ct W p) := by rw [ct, h]; rfl
/-- What the end of Edge reads: the next state's box, both places, the result's box. -/
def Sq (gn g b gr n P Q : Nat) (ck nx : Int) (W : World) : Prop :=
  W.cell? ⟨gn, 0, none⟩ = some (.slice (some ⟨gr, 0, none⟩) n n) ∧ W.cell? ⟨gn, 1, none⟩ = some (.int .i64 ck) ∧ W.cell? ⟨gn, 2, none⟩ = some (.int .i64 nx) ∧ W.cell? ⟨g, 0, none⟩ = some (.int .i64 P) ∧ W.cell? ⟨g, 1, none⟩ = some (.int .i64 Q) ∧
  W.cell? ⟨b, 0, none⟩ = some (ct W ⟨b, 0, none⟩) ∧ W.cell? ⟨b, 1, none⟩ = some (ct W ⟨b, 1, none⟩) ∧ W.cell? ⟨b, 2, none⟩ = some (ct W ⟨b, 2, none⟩) ∧ W.frozen? ⟨b, 0, none⟩ = false ∧ W.frozen? ⟨b, 1, none⟩ = false ∧ W.frozen? ⟨b, 2, none⟩ = false
theorem Sq.mk' {gn g b gr n P Q : Nat} {ck nx : Int} {W : World} {u0 u1 u2 : Value} (hz : Bx W gn (.slice (some ⟨gr, 0, none⟩) n n) (.int .i64 ck) (.int .i64 nx)) (h0 : W.cell? ⟨g, 0, none⟩ = some (.int .i64 P)) (h1 : W.cell? ⟨g, 1, none⟩ = some (.int .i64 Q)) (hy : Bx W b u0 u1 u2) : Sq gn g b gr n P Q ck nx W :=
  ⟨hz.c0, hz.c1, hz.c2, h0, h1, ct_of hy.c0, ct_of hy.c1, ct_of hy.c2, hy.f0, hy.f1, hy.f2⟩
set_option maxRecDepth 100000 in
set_option maxHeartbeats 4000000 in
theorem edge_bad (A : Option Addr) (n c : Nat) (s : St) (r v : Int) (w : World) (hr : Rd w A n c s.l) (hOk : ¬ Ok s) :
    Calls Try.prog 12 #[.agg #[.slice A n c, .int .i64 s.c, .int .i64 s.n], .int .i64 r, .int .i64 v] w (AnsL (zS, [], 9) w) := by
  have hlen := hr.len
  have HCK := Lib.hid fun W (hb : Below w.heap.size w W) => check_any A n c s W (hr.below hb)
  obtain ⟨hx, hy, hb0⟩ := two3 w (.slice A n c) (.int .i64 s.c) (.int .i64 s.n) (.slice none 0 0) (.int .i64 0) (.int .i64 0) 28
  have HX := Lib.hid hx
  have HY := Lib.hid hy
  have HB0 := Lib.hid hb0
  have x0 := hx.c0
  have x1 := hx.c1
  have x2 := hx.c2
  have y0 := hy.c0
  have y1 := hy.c1
  have y2 := hy.c2
  have yf0 := hy.f0
  have yf1 := hy.f1
  have yf2 := hy.f2
  clear hx hy hb0
  rw [chk_bad hOk] at HCK
  clear hOk
  go_enter Try.func12, Try.ntmps12
  go_upto_region 1 with fail
  generalize (w.alloc (.cells #[.slice A n c, .int .i64 s.c, .int .i64 s.n] 28)).alloc (.cells #[.slice none 0 0, .int .i64 0, .int .i64 0] 28) = W0 at *
  go_wp2_with (first | (go_at_call 11; (with_reducible refine (HCK.out _ HB0.out).mono ?_); rintro e w1 ⟨rfl, hb1⟩; have HB1 := Lib.hid (thn HB0.out hb1); have HX1 := Lib.hid (HX.out.below hb1); have u0 := HX1.out.c0; have u1 := HX1.out.c1; have u2 := HX1.out.c2; have HY1 := Lib.hid (HY.out.below hb1); have z0 := HY1.out.c0; have z1 := HY1.out.c1; have z2 := HY1.out.c2; have zf0 := HY1.out.f0; have zf1 := HY1.out.f1; have zf2 := HY1.out.f2; clear hb1))
  obtain ⟨q0, q1, q2, _, _, _⟩ := HY1.out.set3 (.slice none 0 0) (.int .i64 0) (.int .i64 0)
  exact bodyPost_ret (v := .tuple #[.agg #[.slice none 0 0, .int .i64 0, .int .i64 0], .slice none 0 0, .int .i64 9]) (by simp [results, Try.results12, go_sem, q0, q1, q2]) rfl (AnsL.zero _ (((HB1.out.setCell (by simp) _).setCell (by simp) _).setCell (by simp) _))
set_option maxRecDepth 100000 in
set_option maxHeartbeats 8000000 in
theorem edge_none (A : Option Addr) (n c : Nat) (s : St) (r v : Int) (w : World) (hr : Rd w A n c s.l) (hOk : Ok s) (h : ¬ (plc r s.l < s.l.length ∧ plc v s.l < s.l.length)) :
    Calls Try.prog 12 #[.agg #[.slice A n c, .int .i64 s.c, .int .i64 s.n], .int .i64 r, .int .i64 v] w (AnsL (zS, [], 71) w) := by
  have hlen := hr.len
  have HCK := Lib.hid fun W (hb : Below w.heap.size w W) => check_any A n c s W (hr.below hb)
  obtain ⟨hx, hy, hb0⟩ := two3 w (.slice A n c) (.int .i64 s.c) (.int .i64 s.n) (.slice none 0 0) (.int .i64 0) (.int .i64 0) 28
  have HX := Lib.hid hx
  have HY := Lib.hid hy
  have HB0 := Lib.hid hb0
  have x0 := hx.c0
  have x1 := hx.c1
  have x2 := hx.c2
  have y0 := hy.c0
  have y1 := hy.c1
  have y2 := hy.c2
  have yf0 := hy.f0
  have yf1 := hy.f1
  have yf2 := hy.f2
  clear hx hy hb0
  rw [chk_ok hOk] at HCK
  have HPR := Lib.hid fun i W (hb : Below w.heap.size w W) => place_any i A n c s.l W (hr.below hb)
  have hcase : idx r s.l = -1 ∨ ((idx r s.l = -1) = False ∧ 0 ≤ idx r s.l ∧ idx v s.l = -1) := by
    unfold idx
    by_cases h1 : plc r s.l < s.l.length
    · refine .inr ⟨by rw [if_pos h1]; simp <;> omega, by rw [if_pos h1]; omega, if_neg (fun h2 => h ⟨h1, h2⟩)⟩
    · exact .inl (if_neg h1)
  have HCA := Lib.hid hcase
  clear hcase h
  go_enter Try.func12, Try.ntmps12
  go_upto_region 1 with fail
  generalize (w.alloc (.cells #[.slice A n c, .int .i64 s.c, .int .i64 s.n] 28)).alloc (.cells #[.slice none 0 0, .int .i64 0, .int .i64 0] 28) = W0 at *
  go_upto_region 4 with (first | (go_at_call 11; (with_reducible refine (HCK.out _ HB0.out).mono ?_); rintro e w1 ⟨rfl, hb1⟩; have HB1 := Lib.hid (thn HB0.out hb1); have HX1 := Lib.hid (HX.out.below hb1); have u0 := HX1.out.c0; have u1 := HX1.out.c1; have u2 := HX1.out.c2; have HY1 := Lib.hid (HY.out.below hb1); have z0 := HY1.out.c0; have z1 := HY1.out.c1; have z2 := HY1.out.c2; have zf0 := HY1.out.f0; have zf1 := HY1.out.f1; have zf2 := HY1.out.f2; clear hb1))
  clear HB0 HX HY x0 x1 x2 y0 y1 y2 yf0 yf1 yf2
  go_cut [10] (fun p wx => ∃ g : Nat, p = .pointer (some ⟨g, 0, none⟩) ∧ w1.heap.size ≤ g ∧ wx.cell? ⟨g, 0, none⟩ = some (.int .i64 (idx r s.l)) ∧ wx.cell? ⟨g, 1, none⟩ = some (.int .i64 (idx v s.l)) ∧ Below w1.heap.size w1 wx)
  case first =>
    have HSO := Lib.hid fun W' (hb : Below w1.heap.size w1 W') => (show Below w1.heap.size w1 W' ∧ W'.cell? ⟨w.heap.size, 0, none⟩ = some (.slice A n c) from ⟨hb, cell_keep u0 hb⟩)
    have hbW := (Below.refl w1.heap.size w1).drew
    clear z0 z1 z2 zf0 zf1 zf2 u0 u1 u2
    go_region_held3 (fun W' => Below w1.heap.size w1 W' ∧ W'.cell? ⟨w.heap.size, 0, none⟩ = some (.slice A n c))
      (first | exact HSO.out _ hbW | exact HSO.out _ hq2 | exact HSO.out _ (hq2.alloc hq2.size _) | exact HSO.out _ (hbW.alloc (Nat.le_refl _) _) | exact HSO.out _ ((hq2.setCell (by simp <;> omega) _).setCell (by simp <;> omega) _) | (obtain ⟨s0, _⟩ := ‹Below w1.heap.size w1 _ ∧ _›; exact HSO.out _ (s0.alloc s0.size _)))
      (first | (go_at_call 20; first
        | (have hq0 := hq2; (with_reducible refine (HPR.out _ _ (thn HB1.out <| And.left ‹Below w1.heap.size w1 _ ∧ _›)).mono ?_); rintro e w5 ⟨rfl, hb⟩; first
            | (have hq3 : Below w1.heap.size w1 w5 := thn hq2 hb; (try (have hd0 := cell_keep hc0 hb; have hd1 := cell_keep hc1 hb; have hg0 := (hb.frozen (p := ⟨_, 0, none⟩) (cell_lt hc0)).trans hf0; have hg1 := (hb.frozen (p := ⟨_, 1, none⟩) (cell_lt hc1)).trans hf1)))
            | (have hq3 : Below w1.heap.size w1 w5 := thn (thn hq2 (below1 _ _)) hb; have hd0 := (new2_keep (W := w4) (v := .int .i64 0) (u := .int .i64 0) (t := 61) hb).1; have hd1 := (new2_keep (W := w4) (v := .int .i64 0) (u := .int .i64 0) (t := 61) hb).2.1; have hg0 := (new2_keep (W := w4) (v := .int .i64 0) (u := .int .i64 0) (t := 61) hb).2.2.1; have hg1 := (new2_keep (W := w4) (v := .int .i64 0) (u := .int .i64 0) (t := 61) hb).2.2.2);
           clear hb hq0 hq2; have hq2 := hq3; clear hq3)
        | ((with_reducible refine (HPR.out _ _ (thn HB1.out <| And.left ‹Below w1.heap.size w1 _ ∧ _›)).mono ?_); rintro e w4 ⟨rfl, hb⟩; have hq2 : Below w1.heap.size w1 w4 := thn (And.left ‹Below w1.heap.size w1 _ ∧ _›) hb; have hz4 := hq2.size; (try (have hc0 := (new2_keepD (W := w1) (v := .int .i64 0) (u := .int .i64 0) (t := 61) hb).1; have hc1 := (new2_keepD (W := w1) (v := .int .i64 0) (u := .int .i64 0) (t := 61) hb).2.1; have hf0 := (new2_keepD (W := w1) (v := .int .i64 0) (u := .int .i64 0) (t := 61) hb).2.2.1; have hf1 := (new2_keepD (W := w1) (v := .int .i64 0) (u := .int .i64 0) (t := 61) hb).2.2.2)); (try (have hc0 := (new2_keep (W := w1) (v := .int .i64 0) (u := .int .i64 0) (t := 61) hb).1; have hc1 := (new2_keep (W := w1) (v := .int .i64 0) (u := .int .i64 0) (t := 61) hb).2.1; have hf0 := (new2_keep (W := w1) (v := .int .i64 0) (u := .int .i64 0) (t := 61) hb).2.2.1; have hf1 := (new2_keep (W := w1) (v := .int .i64 0) (u := .int .i64 0) (t := 61) hb).2.2.2)); clear hb)))
    · have hb9 := hq2.alloc hq2.size (.cells #[.int .i64 (idx r s.l), .int .i64 (idx v s.l)] 61)
      have F0 := Lib.hid (cell_last w5 #[.int .i64 (idx r s.l), .int .i64 (idx v s.l)] 61 w5.heap.size 0 rfl)
      have F1 := Lib.hid (cell_last w5 #[.int .i64 (idx r s.l), .int .i64 (idx v s.l)] 61 w5.heap.size 1 rfl)
      have F2 := Lib.hid hq2.size
      have F3 := Lib.hid hb9
      clear hb9 hq2 hbW
      go_wp2_with fail
      go_meet
      exact ⟨_, rfl, F2.out, F0.out, F1.out, F3.out⟩
    all_goals
      obtain ⟨h0, h1⟩ := st2 hd0 hd1 (.int .i64 (idx r s.l)) (.int .i64 (idx v s.l))
      have F0 := Lib.hid h0
      have F1 := Lib.hid h1
      have F3 := Lib.hid (And.left ‹Below w1.heap.size w1 _ ∧ _›)
      have F2 := Lib.hid hz4
      clear h0 h1 hq2 hbW hd0 hd1 hg0 hg1 hz4
      go_wp2_with fail
      go_meet
      exact ⟨_, rfl, by have := F2.out; omega, F0.out, F1.out, F3.out⟩
  case rest =>
  obtain ⟨g, rfl, hg, hg0, hg1, hb⟩ := hcut
  have HBC := Lib.hid (thn HB1.out hb)
  have HXC := Lib.hid (HX1.out.below hb)
  have HYC := Lib.hid (HY1.out.below hb)
  have HGG := Lib.hid hg
  clear hb hg z0 z1 z2 zf0 zf1 zf2 u0 u1 u2
  have hgl := cell_lt hg0
  clear HPR
  generalize idx r s.l = I at *
  generalize idx v s.l = J at *
  rcases HCA.out with rfl | ⟨_, h0, rfl⟩
  · clear HCA
    obtain ⟨y0, y1, y2, yf0, yf1, yf2⟩ := HYC.out
    go_wp2_with fail
    obtain ⟨q0, q1, q2, _, _, _⟩ := HYC.out.set3 (.slice none 0 0) (.int .i64 0) (.int .i64 0)
    exact bodyPost_ret (v := .tuple #[.agg #[.slice none 0 0, .int .i64 0, .int .i64 0], .slice none 0 0, .int .i64 71]) (by simp [results, Try.results12, go_sem, q0, q1, q2]) rfl (AnsL.zero _ (((HBC.out.setCell (by simp) _).setCell (by simp) _).setCell (by simp) _))
  · have h0' : decide (I < 0) = false := decide_eq_false (by omega)
    clear HCA
    obtain ⟨y0, y1, y2, yf0, yf1, yf2⟩ := HYC.out
    go_wp2_with fail
    obtain ⟨q0, q1, q2, _, _, _⟩ := HYC.out.set3 (.slice none 0 0) (.int .i64 0) (.int .i64 0)
    exact bodyPost_ret (v := .tuple #[.agg #[.slice none 0 0, .int .i64 0, .int .i64 0], .slice none 0 0, .int .i64 71]) (by simp [results, Try.results12, go_sem, q0, q1, q2]) rfl (AnsL.zero _ (((HBC.out.setCell (by simp) _).setCell (by simp) _).setCell (by simp) _))
set_option maxRecDepth 100000 in
set_option maxHeartbeats 8000000 in
theorem edge_one (A : Option Addr) (n c : Nat) (s : St) (r v : Int) (w : World) (hr : Rd w A n c s.l) (hOk : Ok s) (h : plc r s.l < s.l.length ∧ plc v s.l < s.l.length) (hs : (r == v) = true) :
    Calls Try.prog 12 #[.agg #[.slice A n c, .int .i64 s.c, .int .i64 s.n], .int .i64 r, .int .i64 v] w (AnsL (s, [], 0) w) := by
  have hlen := hr.len
  have HCK := Lib.hid fun W (hb : Below w.heap.size w W) => check_any A n c s W (hr.below hb)
  obtain ⟨hx, hy, hb0⟩ := two3 w (.slice A n c) (.int .i64 s.c) (.int .i64 s.n) (.slice none 0 0) (.int .i64 0) (.int .i64 0) 28
  have HX := Lib.hid hx
  have HY := Lib.hid hy
  have HB0 := Lib.hid hb0
  have x0 := hx.c0
  have x1 := hx.c1
  have x2 := hx.c2
  have y0 := hy.c0
  have y1 := hy.c1
  have y2 := hy.c2
  have yf0 := hy.f0
  have yf1 := hy.f1
  have yf2 := hy.f2
  clear hx hy hb0
  rw [chk_ok hOk] at HCK
  have hP := h.1
  have hQ := h.2
  have HIR : Hid (idx r s.l = (plc r s.l : Int)) := Lib.hid (if_pos hP)
  have HIV : Hid (idx v s.l = (plc v s.l : Int)) := Lib.hid (if_pos hQ)
  have HPR := Lib.hid fun i W (hb : Below w.heap.size w W) => place_any i A n c s.l W (hr.below hb)
  have HFR := Lib.hid fun W (hb : Below w.heap.size w W) => fresh_any A n c s W (hr.below hb) (by have := hOk.len; omega)
  obtain ⟨ad, rfl, htx⟩ := hr.txn hP
  obtain ⟨ad2, e2, hty⟩ := hr.txn hQ
  injection e2 with e2
  subst e2
  have HTX := Lib.hid htx
  have HTY := Lib.hid hty
  have HX1P := Lib.hid (List.getElem?_eq_getElem hP)
  have HY1P := Lib.hid (List.getElem?_eq_getElem hQ)
  have hPn : plc r s.l < n := by omega
  have hQn : plc v s.l < n := by omega
  have hP2 : (plc r s.l : Int) < (n : Int) := by omega
  have hQ2 : (plc v s.l : Int) < (n : Int) := by omega
  have hcap := hr.le
  have hcap2 := hr.cap
  have hP3 : (plc r s.l : Int) < 9223372036854775807 := by omega
  have hQ3 : (plc v s.l : Int) < 9223372036854775807 := by omega
  have HRNG := Lib.hid hOk
  clear htx hty hr
  clear hOk
  go_enter Try.func12, Try.ntmps12
  go_upto_region 1 with fail
  generalize (w.alloc (.cells #[.slice (some ad) n c, .int .i64 s.c, .int .i64 s.n] 28)).alloc (.cells #[.slice none 0 0, .int .i64 0, .int .i64 0] 28) = W0 at *
  go_upto_region 4 with (first | (go_at_call 11; (with_reducible refine (HCK.out _ HB0.out).mono ?_); rintro e w1 ⟨rfl, hb1⟩; have HB1 := Lib.hid (thn HB0.out hb1); have HX1 := Lib.hid (HX.out.below hb1); have u0 := HX1.out.c0; have u1 := HX1.out.c1; have u2 := HX1.out.c2; have HY1 := Lib.hid (HY.out.below hb1); have z0 := HY1.out.c0; have z1 := HY1.out.c1; have z2 := HY1.out.c2; have zf0 := HY1.out.f0; have zf1 := HY1.out.f1; have zf2 := HY1.out.f2; clear hb1))
  clear HB0 HX HY x0 x1 x2 y0 y1 y2 yf0 yf1 yf2
  go_cut [10] (fun p wx => ∃ g : Nat, p = .pointer (some ⟨g, 0, none⟩) ∧ w1.heap.size ≤ g ∧ wx.cell? ⟨g, 0, none⟩ = some (.int .i64 (idx r s.l)) ∧ wx.cell? ⟨g, 1, none⟩ = some (.int .i64 (idx v s.l)) ∧ Below w1.heap.size w1 wx)
  case first =>
    have HSO := Lib.hid fun W' (hb : Below w1.heap.size w1 W') => (show Below w1.heap.size w1 W' ∧ W'.cell? ⟨w.heap.size, 0, none⟩ = some (.slice (some ad) n c) from ⟨hb, cell_keep u0 hb⟩)
    have hbW := (Below.refl w1.heap.size w1).drew
    clear z0 z1 z2 zf0 zf1 zf2 u0 u1 u2
    go_region_held3 (fun W' => Below w1.heap.size w1 W' ∧ W'.cell? ⟨w.heap.size, 0, none⟩ = some (.slice (some ad) n c))
      (first | exact HSO.out _ hbW | exact HSO.out _ hq2 | exact HSO.out _ (hq2.alloc hq2.size _) | exact HSO.out _ (hbW.alloc (Nat.le_refl _) _) | exact HSO.out _ ((hq2.setCell (by simp <;> omega) _).setCell (by simp <;> omega) _) | (obtain ⟨s0, _⟩ := ‹Below w1.heap.size w1 _ ∧ _›; exact HSO.out _ (s0.alloc s0.size _)))
      (first | (go_at_call 20; first
        | (have hq0 := hq2; (with_reducible refine (HPR.out _ _ (thn HB1.out <| And.left ‹Below w1.heap.size w1 _ ∧ _›)).mono ?_); rintro e w5 ⟨rfl, hb⟩; first
            | (have hq3 : Below w1.heap.size w1 w5 := thn hq2 hb; (try (have hd0 := cell_keep hc0 hb; have hd1 := cell_keep hc1 hb; have hg0 := (hb.frozen (p := ⟨_, 0, none⟩) (cell_lt hc0)).trans hf0; have hg1 := (hb.frozen (p := ⟨_, 1, none⟩) (cell_lt hc1)).trans hf1)))
            | (have hq3 : Below w1.heap.size w1 w5 := thn (thn hq2 (below1 _ _)) hb; have hd0 := (new2_keep (W := w4) (v := .int .i64 0) (u := .int .i64 0) (t := 61) hb).1; have hd1 := (new2_keep (W := w4) (v := .int .i64 0) (u := .int .i64 0) (t := 61) hb).2.1; have hg0 := (new2_keep (W := w4) (v := .int .i64 0) (u := .int .i64 0) (t := 61) hb).2.2.1; have hg1 := (new2_keep (W := w4) (v := .int .i64 0) (u := .int .i64 0) (t := 61) hb).2.2.2);
           clear hb hq0 hq2; have hq2 := hq3; clear hq3)
        | ((with_reducible refine (HPR.out _ _ (thn HB1.out <| And.left ‹Below w1.heap.size w1 _ ∧ _›)).mono ?_); rintro e w4 ⟨rfl, hb⟩; have hq2 : Below w1.heap.size w1 w4 := thn (And.left ‹Below w1.heap.size w1 _ ∧ _›) hb; have hz4 := hq2.size; (try (have hc0 := (new2_keepD (W := w1) (v := .int .i64 0) (u := .int .i64 0) (t := 61) hb).1; have hc1 := (new2_keepD (W := w1) (v := .int .i64 0) (u := .int .i64 0) (t := 61) hb).2.1; have hf0 := (new2_keepD (W := w1) (v := .int .i64 0) (u := .int .i64 0) (t := 61) hb).2.2.1; have hf1 := (new2_keepD (W := w1) (v := .int .i64 0) (u := .int .i64 0) (t := 61) hb).2.2.2)); (try (have hc0 := (new2_keep (W := w1) (v := .int .i64 0) (u := .int .i64 0) (t := 61) hb).1; have hc1 := (new2_keep (W := w1) (v := .int .i64 0) (u := .int .i64 0) (t := 61) hb).2.1; have hf0 := (new2_keep (W := w1) (v := .int .i64 0) (u := .int .i64 0) (t := 61) hb).2.2.1; have hf1 := (new2_keep (W := w1) (v := .int .i64 0) (u := .int .i64 0) (t := 61) hb).2.2.2)); clear hb)))
    · have hb9 := hq2.alloc hq2.size (.cells #[.int .i64 (idx r s.l), .int .i64 (idx v s.l)] 61)
      have F0 := Lib.hid (cell_last w5 #[.int .i64 (idx r s.l), .int .i64 (idx v s.l)] 61 w5.heap.size 0 rfl)
      have F1 := Lib.hid (cell_last w5 #[.int .i64 (idx r s.l), .int .i64 (idx v s.l)] 61 w5.heap.size 1 rfl)
      have F2 := Lib.hid hq2.size
      have F3 := Lib.hid hb9
      clear hb9 hq2 hbW
      go_wp2_with fail
      go_meet
      exact ⟨_, rfl, F2.out, F0.out, F1.out, F3.out⟩
    all_goals
      obtain ⟨h0, h1⟩ := st2 hd0 hd1 (.int .i64 (idx r s.l)) (.int .i64 (idx v s.l))
      have F0 := Lib.hid h0
      have F1 := Lib.hid h1
      have F3 := Lib.hid (And.left ‹Below w1.heap.size w1 _ ∧ _›)
      have F2 := Lib.hid hz4
      clear h0 h1 hq2 hbW hd0 hd1 hg0 hg1 hz4
      go_wp2_with fail
      go_meet
      exact ⟨_, rfl, by have := F2.out; omega, F0.out, F1.out, F3.out⟩
  case rest =>
  obtain ⟨g, rfl, hg, hg0, hg1, hb⟩ := hcut
  have HBC := Lib.hid (thn HB1.out hb)
  have HXC := Lib.hid (HX1.out.below hb)
  have HYC := Lib.hid (HY1.out.below hb)
  have HGG := Lib.hid hg
  clear hb hg z0 z1 z2 zf0 zf1 zf2 u0 u1 u2
  have hgl := cell_lt hg0
  clear HPR
  rw [HIR.out] at hg0
  rw [HIV.out] at hg1
  clear HIR HIV
  generalize hTx : s.l[plc r s.l] = x at *
  generalize hTy : s.l[plc v s.l] = y at *
  generalize plc r s.l = P at *
  generalize plc v s.l = Q at *
  clear hTx hTy
  have hn1 : ¬ (P : Int) < 0 := by omega
  have hn2 : ¬ (Q : Int) < 0 := by omega
  have hg0' : Hid (wc.cell? ⟨g, 0, none⟩ = some (.int .i64 P)) := Lib.hid hg0
  have hg1' : Hid (wc.cell? ⟨g, 1, none⟩ = some (.int .i64 Q)) := Lib.hid hg1
  obtain ⟨x0, x1, x2, _, _, _⟩ := HXC.out
  go_upto_region 8 with (go_at_call 17; (with_reducible refine (HFR.out _ HBC.out).mono ?_); rintro e w6 ⟨gr, rfl, hown, hgr, hgrl, hb6⟩; have HB6 := Lib.hid (thn HBC.out hb6); have HX6 := Lib.hid (HXC.out.below hb6); have HY6 := Lib.hid (HYC.out.below hb6); have HG0 := Lib.hid (cell_keep hg0 hb6); have HG1 := Lib.hid (cell_keep hg1 hb6); have HO6 := Lib.hid (row_of_own hown); have HGR := Lib.hid hgr; have HGRL := Lib.hid hgrl; have HYL := Lib.hid HYC.out.lt; have HGL := Lib.hid (show g < wc.heap.size from hgl); clear hb6 hown hgr hgrl)
  have hb7 := below1 w6 (.cells #[.slice (some ⟨gr, 0, none⟩) n n, .int .i64 s.c, .int .i64 s.n] 28)
  have HB7 := Lib.hid (thn HB6.out hb7)
  have HX7 := Lib.hid (HX6.out.below hb7)
  have HY7 := Lib.hid (HY6.out.below hb7)
  have HZ7 := Lib.hid (Bx.new w6 (.slice (some ⟨gr, 0, none⟩) n n) (.int .i64 s.c) (.int .i64 s.n) 28)
  have HO7 := Lib.hid (HO6.out.below hb7)
  have HG07 := Lib.hid (cell_keep HG0.out hb7)
  have HG17 := Lib.hid (cell_keep HG1.out hb7)
  have HT7 := Lib.hid (HTX.out _ HB7.out)
  have HU7 := Lib.hid (HTY.out _ HB7.out)
  have HN1 := Lib.hid (show w.heap.size + 1 < g ∧ g < gr ∧ gr < w6.heap.size from by
    have h1 := HYL.out
    have h2 := HGR.out
    have h3 := HGRL.out
    have h4 := HGL.out
    have h5 := HY1.out.lt
    have h6 := HGG.out
    omega)
  clear HBC HXC HYC HB6 HX6 HY6 HG0 HG1 HO6 HGR HGRL HYL HGL HTX HTY hg0 hg1 hg0' hg1' x0 x1 x2 hb7 hgl HFR HGG HX1 HY1 HB1
  generalize w6.alloc (.cells #[.slice (some ⟨gr, 0, none⟩) n n, .int .i64 s.c, .int .i64 s.n] 28) = W7 at *
  generalize w6.heap.size = gn at *
  have x0 := HX7.out.c0
  have a0 := HG07.out
  have a1 := HG17.out
  obtain ⟨tl, t0, t1, t2, t3, t4⟩ := HT7.out
  obtain ⟨ul, v0, v1, v2, v3, v4⟩ := HU7.out
  have hz1 := cell_lt x0
  have hz2 := cell_lt a0
  have HON := Lib.hid fun W => once_any x y W
  have q0 := cell_regrown x0
  have q1 := cell_regrown a0
  have q2 := cell_regrown a1
  have q3 := cell_regrown t0
  have q4 := cell_regrown t1
  have q5 := cell_regrown t2
  have q6 := cell_regrown t3
  have q7 := cell_regrown t4
  have q8 := cell_regrown v0
  have q9 := cell_regrown v1
  have qa := cell_regrown v2
  have qb := cell_regrown v3
  have qc := cell_regrown v4
  clear x0 a0 a1 t0 t1 t2 t3 t4 v0 v1 v2 v3 v4
  refine wp_region_quiet_below (by kernel_rfl) (by kernel_rfl) ?_
  repeat (go_big_quiet_step (with_reducible exact Calls.regrown_of (HON.out _)))
  refine wpQuiet_nil ?_
  intro w8 hw8
  obtain ⟨pp, rfl⟩ := hw8
  have hb8 := below_regrown W7 pp.d pp.os
  have HB8 := Lib.hid (thn HB7.out hb8)
  have HY8 := Lib.hid (HY7.out.below hb8)
  have HZ8 := Lib.hid (HZ7.out.below hb8)
  have HO8 := Lib.hid (HO7.out.below hb8)
  have HG8 := Lib.hid (cell_keep HG07.out hb8)
  have HH8 := Lib.hid (cell_keep HG17.out hb8)
  clear q0 q1 q2 q3 q4 q5 q6 q7 q8 q9 qa qb qc hb8 HT7 HU7
  generalize grow (redrawn W7 pp.d) pp.os = W8 at *
  obtain ⟨z0, z1, z2, _, _, _⟩ := HZ8.out
  obtain ⟨y0, y1, y2, yf0, yf1, yf2⟩ := HY8.out
  have HO9 := Lib.hid (((HO8.out.other ⟨w.heap.size + 1, 0, none⟩ (.slice (some ⟨gr, 0, none⟩) n n) (by have := HN1.out; simp; omega)).other ⟨w.heap.size + 1, 1, none⟩ (.int .i64 s.c) (by have := HN1.out; simp; omega)).other ⟨w.heap.size + 1, 2, none⟩ (.int .i64 s.n) (by have := HN1.out; simp; omega))
  have HR9 := Lib.hid (HO9.out.rd (n := n) hlen (by omega) HRNG.out.rng)
  have HB9 := Lib.hid (((HB8.out.setCell (p := ⟨w.heap.size + 1, 0, none⟩) (by simp) (.slice (some ⟨gr, 0, none⟩) n n)).setCell (p := ⟨w.heap.size + 1, 1, none⟩) (by simp) (.int .i64 s.c)).setCell (p := ⟨w.heap.size + 1, 2, none⟩) (by simp) (.int .i64 s.n))
  obtain ⟨q0, q1, q2, _, _, _⟩ := HY8.out.set3 (.slice (some ⟨gr, 0, none⟩) n n) (.int .i64 s.c) (.int .i64 s.n)
  go_wp2_with fail
  exact bodyPost_ret (v := .tuple #[.agg #[.slice (some ⟨gr, 0, none⟩) n n, .int .i64 s.c, .int .i64 s.n], .slice none 0 0, .int .i64 0]) (by simp [results, Try.results12, go_sem, q0, q1, q2]) rfl ⟨_, n, n, none, 0, 0, rfl, HR9.out, RdI.nothing _, HB9.out⟩
set_option maxRecDepth 100000 in
set_option maxHeartbeats 8000000 in
theorem edge_apart (A : Option Addr) (n c : Nat) (s : St) (r v : Int) (w : World) (hr : Rd w A n c s.l) (hOk : Ok s) (h : plc r s.l < s.l.length ∧ plc v s.l < s.l.length) (hs : (r == v) = false) (ho : onceB (s.l[plc r s.l]'h.1) (s.l[plc v s.l]'h.2) = false) :
    Calls Try.prog 12 #[.agg #[.slice A n c, .int .i64 s.c, .int .i64 s.n], .int .i64 r, .int .i64 v] w (AnsL (s, [], 0) w) := by
  have hlen := hr.len
  have HCK := Lib.hid fun W (hb : Below w.heap.size w W) => check_any A n c s W (hr.below hb)
  obtain ⟨hx, hy, hb0⟩ := two3 w (.slice A n c) (.int .i64 s.c) (.int .i64 s.n) (.slice none 0 0) (.int .i64 0) (.int .i64 0) 28
  have HX := Lib.hid hx
  have HY := Lib.hid hy
  have HB0 := Lib.hid hb0
  have x0 := hx.c0
  have x1 := hx.c1
  have x2 := hx.c2
  have y0 := hy.c0
  have y1 := hy.c1
  have y2 := hy.c2
  have yf0 := hy.f0
  have yf1 := hy.f1
  have yf2 := hy.f2
  clear hx hy hb0
  rw [chk_ok hOk] at HCK
  have hP := h.1
  have hQ := h.2
  have HIR : Hid (idx r s.l = (plc r s.l : Int)) := Lib.hid (if_pos hP)
  have HIV : Hid (idx v s.l = (plc v s.l : Int)) := Lib.hid (if_pos hQ)
  have HPR := Lib.hid fun i W (hb : Below w.heap.size w W) => place_any i A n c s.l W (hr.below hb)
  have HFR := Lib.hid fun W (hb : Below w.heap.size w W) => fresh_any A n c s W (hr.below hb) (by have := hOk.len; omega)
  obtain ⟨ad, rfl, htx⟩ := hr.txn hP
  obtain ⟨ad2, e2, hty⟩ := hr.txn hQ
  injection e2 with e2
  subst e2
  have HTX := Lib.hid htx
  have HTY := Lib.hid hty
  have HX1P := Lib.hid (List.getElem?_eq_getElem hP)
  have HY1P := Lib.hid (List.getElem?_eq_getElem hQ)
  have hPn : plc r s.l < n := by omega
  have hQn : plc v s.l < n := by omega
  have hP2 : (plc r s.l : Int) < (n : Int) := by omega
  have hQ2 : (plc v s.l : Int) < (n : Int) := by omega
  have hcap := hr.le
  have hcap2 := hr.cap
  have hP3 : (plc r s.l : Int) < 9223372036854775807 := by omega
  have hQ3 : (plc v s.l : Int) < 9223372036854775807 := by omega
  have HRNG := Lib.hid hOk
  clear htx hty hr
  have HON := Lib.hid fun W => once_any s.l[plc r s.l] s.l[plc v s.l] W
  rw [ho] at HON
  clear hOk ho
  go_enter Try.func12, Try.ntmps12
  go_upto_region 1 with fail
  generalize (w.alloc (.cells #[.slice (some ad) n c, .int .i64 s.c, .int .i64 s.n] 28)).alloc (.cells #[.slice none 0 0, .int .i64 0, .int .i64 0] 28) = W0 at *
  go_upto_region 4 with (first | (go_at_call 11; (with_reducible refine (HCK.out _ HB0.out).mono ?_); rintro e w1 ⟨rfl, hb1⟩; have HB1 := Lib.hid (thn HB0.out hb1); have HX1 := Lib.hid (HX.out.below hb1); have u0 := HX1.out.c0; have u1 := HX1.out.c1; have u2 := HX1.out.c2; have HY1 := Lib.hid (HY.out.below hb1); have z0 := HY1.out.c0; have z1 := HY1.out.c1; have z2 := HY1.out.c2; have zf0 := HY1.out.f0; have zf1 := HY1.out.f1; have zf2 := HY1.out.f2; clear hb1))
  clear HB0 HX HY x0 x1 x2 y0 y1 y2 yf0 yf1 yf2
  go_cut [10] (fun p wx => ∃ g : Nat, p = .pointer (some ⟨g, 0, none⟩) ∧ w1.heap.size ≤ g ∧ wx.cell? ⟨g, 0, none⟩ = some (.int .i64 (idx r s.l)) ∧ wx.cell? ⟨g, 1, none⟩ = some (.int .i64 (idx v s.l)) ∧ Below w1.heap.size w1 wx)
  case first =>
    have HSO := Lib.hid fun W' (hb : Below w1.heap.size w1 W') => (show Below w1.heap.size w1 W' ∧ W'.cell? ⟨w.heap.size, 0, none⟩ = some (.slice (some ad) n c) from ⟨hb, cell_keep u0 hb⟩)
    have hbW := (Below.refl w1.heap.size w1).drew
    clear z0 z1 z2 zf0 zf1 zf2 u0 u1 u2
    go_region_held3 (fun W' => Below w1.heap.size w1 W' ∧ W'.cell? ⟨w.heap.size, 0, none⟩ = some (.slice (some ad) n c))
      (first | exact HSO.out _ hbW | exact HSO.out _ hq2 | exact HSO.out _ (hq2.alloc hq2.size _) | exact HSO.out _ (hbW.alloc (Nat.le_refl _) _) | exact HSO.out _ ((hq2.setCell (by simp <;> omega) _).setCell (by simp <;> omega) _) | (obtain ⟨s0, _⟩ := ‹Below w1.heap.size w1 _ ∧ _›; exact HSO.out _ (s0.alloc s0.size _)))
      (first | (go_at_call 20; first
        | (have hq0 := hq2; (with_reducible refine (HPR.out _ _ (thn HB1.out <| And.left ‹Below w1.heap.size w1 _ ∧ _›)).mono ?_); rintro e w5 ⟨rfl, hb⟩; first
            | (have hq3 : Below w1.heap.size w1 w5 := thn hq2 hb; (try (have hd0 := cell_keep hc0 hb; have hd1 := cell_keep hc1 hb; have hg0 := (hb.frozen (p := ⟨_, 0, none⟩) (cell_lt hc0)).trans hf0; have hg1 := (hb.frozen (p := ⟨_, 1, none⟩) (cell_lt hc1)).trans hf1)))
            | (have hq3 : Below w1.heap.size w1 w5 := thn (thn hq2 (below1 _ _)) hb; have hd0 := (new2_keep (W := w4) (v := .int .i64 0) (u := .int .i64 0) (t := 61) hb).1; have hd1 := (new2_keep (W := w4) (v := .int .i64 0) (u := .int .i64 0) (t := 61) hb).2.1; have hg0 := (new2_keep (W := w4) (v := .int .i64 0) (u := .int .i64 0) (t := 61) hb).2.2.1; have hg1 := (new2_keep (W := w4) (v := .int .i64 0) (u := .int .i64 0) (t := 61) hb).2.2.2);
           clear hb hq0 hq2; have hq2 := hq3; clear hq3)
        | ((with_reducible refine (HPR.out _ _ (thn HB1.out <| And.left ‹Below w1.heap.size w1 _ ∧ _›)).mono ?_); rintro e w4 ⟨rfl, hb⟩; have hq2 : Below w1.heap.size w1 w4 := thn (And.left ‹Below w1.heap.size w1 _ ∧ _›) hb; have hz4 := hq2.size; (try (have hc0 := (new2_keepD (W := w1) (v := .int .i64 0) (u := .int .i64 0) (t := 61) hb).1; have hc1 := (new2_keepD (W := w1) (v := .int .i64 0) (u := .int .i64 0) (t := 61) hb).2.1; have hf0 := (new2_keepD (W := w1) (v := .int .i64 0) (u := .int .i64 0) (t := 61) hb).2.2.1; have hf1 := (new2_keepD (W := w1) (v := .int .i64 0) (u := .int .i64 0) (t := 61) hb).2.2.2)); (try (have hc0 := (new2_keep (W := w1) (v := .int .i64 0) (u := .int .i64 0) (t := 61) hb).1; have hc1 := (new2_keep (W := w1) (v := .int .i64 0) (u := .int .i64 0) (t := 61) hb).2.1; have hf0 := (new2_keep (W := w1) (v := .int .i64 0) (u := .int .i64 0) (t := 61) hb).2.2.1; have hf1 := (new2_keep (W := w1) (v := .int .i64 0) (u := .int .i64 0) (t := 61) hb).2.2.2)); clear hb)))
    · have hb9 := hq2.alloc hq2.size (.cells #[.int .i64 (idx r s.l), .int .i64 (idx v s.l)] 61)
      have F0 := Lib.hid (cell_last w5 #[.int .i64 (idx r s.l), .int .i64 (idx v s.l)] 61 w5.heap.size 0 rfl)
      have F1 := Lib.hid (cell_last w5 #[.int .i64 (idx r s.l), .int .i64 (idx v s.l)] 61 w5.heap.size 1 rfl)
      have F2 := Lib.hid hq2.size
      have F3 := Lib.hid hb9
      clear hb9 hq2 hbW
      go_wp2_with fail
      go_meet
      exact ⟨_, rfl, F2.out, F0.out, F1.out, F3.out⟩
    all_goals
      obtain ⟨h0, h1⟩ := st2 hd0 hd1 (.int .i64 (idx r s.l)) (.int .i64 (idx v s.l))
      have F0 := Lib.hid h0
      have F1 := Lib.hid h1
      have F3 := Lib.hid (And.left ‹Below w1.heap.size w1 _ ∧ _›)
      have F2 := Lib.hid hz4
      clear h0 h1 hq2 hbW hd0 hd1 hg0 hg1 hz4
      go_wp2_with fail
      go_meet
      exact ⟨_, rfl, by have := F2.out; omega, F0.out, F1.out, F3.out⟩
  case rest =>
  obtain ⟨g, rfl, hg, hg0, hg1, hb⟩ := hcut
  have HBC := Lib.hid (thn HB1.out hb)
  have HXC := Lib.hid (HX1.out.below hb)
  have HYC := Lib.hid (HY1.out.below hb)
  have HGG := Lib.hid hg
  clear hb hg z0 z1 z2 zf0 zf1 zf2 u0 u1 u2
  have hgl := cell_lt hg0
  clear HPR
  rw [HIR.out] at hg0
  rw [HIV.out] at hg1
  clear HIR HIV
  generalize hTx : s.l[plc r s.l] = x at *
  generalize hTy : s.l[plc v s.l] = y at *
  generalize plc r s.l = P at *
  generalize plc v s.l = Q at *
  clear hTx hTy
  have hn1 : ¬ (P : Int) < 0 := by omega
  have hn2 : ¬ (Q : Int) < 0 := by omega
  have hg0' : Hid (wc.cell? ⟨g, 0, none⟩ = some (.int .i64 P)) := Lib.hid hg0
  have hg1' : Hid (wc.cell? ⟨g, 1, none⟩ = some (.int .i64 Q)) := Lib.hid hg1
  obtain ⟨x0, x1, x2, _, _, _⟩ := HXC.out
  go_upto_region 8 with (go_at_call 17; (with_reducible refine (HFR.out _ HBC.out).mono ?_); rintro e w6 ⟨gr, rfl, hown, hgr, hgrl, hb6⟩; have HB6 := Lib.hid (thn HBC.out hb6); have HX6 := Lib.hid (HXC.out.below hb6); have HY6 := Lib.hid (HYC.out.below hb6); have HG0 := Lib.hid (cell_keep hg0 hb6); have HG1 := Lib.hid (cell_keep hg1 hb6); have HO6 := Lib.hid (row_of_own hown); have HGR := Lib.hid hgr; have HGRL := Lib.hid hgrl; have HYL := Lib.hid HYC.out.lt; have HGL := Lib.hid (show g < wc.heap.size from hgl); clear hb6 hown hgr hgrl)
  have hb7 := below1 w6 (.cells #[.slice (some ⟨gr, 0, none⟩) n n, .int .i64 s.c, .int .i64 s.n] 28)
  have HB7 := Lib.hid (thn HB6.out hb7)
  have HX7 := Lib.hid (HX6.out.below hb7)
  have HY7 := Lib.hid (HY6.out.below hb7)
  have HZ7 := Lib.hid (Bx.new w6 (.slice (some ⟨gr, 0, none⟩) n n) (.int .i64 s.c) (.int .i64 s.n) 28)
  have HO7 := Lib.hid (HO6.out.below hb7)
  have HG07 := Lib.hid (cell_keep HG0.out hb7)
  have HG17 := Lib.hid (cell_keep HG1.out hb7)
  have HT7 := Lib.hid (HTX.out _ HB7.out)
  have HU7 := Lib.hid (HTY.out _ HB7.out)
  have HN1 := Lib.hid (show w.heap.size + 1 < g ∧ g < gr ∧ gr < w6.heap.size from by
    have h1 := HYL.out
    have h2 := HGR.out
    have h3 := HGRL.out
    have h4 := HGL.out
    have h5 := HY1.out.lt
    have h6 := HGG.out
    omega)
  clear HBC HXC HYC HB6 HX6 HY6 HG0 HG1 HO6 HGR HGRL HYL HGL HTX HTY hg0 hg1 hg0' hg1' x0 x1 x2 hb7 hgl HFR HGG HX1 HY1 HB1
  generalize w6.alloc (.cells #[.slice (some ⟨gr, 0, none⟩) n n, .int .i64 s.c, .int .i64 s.n] 28) = W7 at *
  generalize w6.heap.size = gn at *
  have x0 := HX7.out.c0
  have a0 := HG07.out
  have a1 := HG17.out
  obtain ⟨tl, t0, t1, t2, t3, t4⟩ := HT7.out
  obtain ⟨ul, v0, v1, v2, v3, v4⟩ := HU7.out
  have hz1 := cell_lt x0
  have hz2 := cell_lt a0
  have q0 := cell_regrown x0
  have q1 := cell_regrown a0
  have q2 := cell_regrown a1
  have q3 := cell_regrown t0
  have q4 := cell_regrown t1
  have q5 := cell_regrown t2
  have q6 := cell_regrown t3
  have q7 := cell_regrown t4
  have q8 := cell_regrown v0
  have q9 := cell_regrown v1
  have qa := cell_regrown v2
  have qb := cell_regrown v3
  have qc := cell_regrown v4
  clear x0 a0 a1 t0 t1 t2 t3 t4 v0 v1 v2 v3 v4
  refine wp_region_quiet_below (by kernel_rfl) (by kernel_rfl) ?_
  repeat (go_big_quiet_step (with_reducible exact Calls.regrown_of (HON.out _)))
  refine wpQuiet_nil ?_
  intro w8 hw8
  obtain ⟨pp, rfl⟩ := hw8
  have hb8 := below_regrown W7 pp.d pp.os
  have HB8 := Lib.hid (thn HB7.out hb8)
  have HY8 := Lib.hid (HY7.out.below hb8)
  have HZ8 := Lib.hid (HZ7.out.below hb8)
  have HO8 := Lib.hid (HO7.out.below hb8)
  have HG8 := Lib.hid (cell_keep HG07.out hb8)
  have HH8 := Lib.hid (cell_keep HG17.out hb8)
  clear q0 q1 q2 q3 q4 q5 q6 q7 q8 q9 qa qb qc hb8 HT7 HU7
  generalize grow (redrawn W7 pp.d) pp.os = W8 at *
  obtain ⟨z0, z1, z2, _, _, _⟩ := HZ8.out
  obtain ⟨y0, y1, y2, yf0, yf1, yf2⟩ := HY8.out
  have HO9 := Lib.hid (((HO8.out.other ⟨w.heap.size + 1, 0, none⟩ (.slice (some ⟨gr, 0, none⟩) n n) (by have := HN1.out; simp; omega)).other ⟨w.heap.size + 1, 1, none⟩ (.int .i64 s.c) (by have := HN1.out; simp; omega)).other ⟨w.heap.size + 1, 2, none⟩ (.int .i64 s.n) (by have := HN1.out; simp; omega))
  have HR9 := Lib.hid (HO9.out.rd (n := n) hlen (by omega) HRNG.out.rng)
  have HB9 := Lib.hid (((HB8.out.setCell (p := ⟨w.heap.size + 1, 0, none⟩) (by simp) (.slice (some ⟨gr, 0, none⟩) n n)).setCell (p := ⟨w.heap.size + 1, 1, none⟩) (by simp) (.int .i64 s.c)).setCell (p := ⟨w.heap.size + 1, 2, none⟩) (by simp) (.int .i64 s.n))
  obtain ⟨q0, q1, q2, _, _, _⟩ := HY8.out.set3 (.slice (some ⟨gr, 0, none⟩) n n) (.int .i64 s.c) (.int .i64 s.n)
  go_wp2_with fail
  exact bodyPost_ret (v := .tuple #[.agg #[.slice (some ⟨gr, 0, none⟩) n n, .int .i64 s.c, .int .i64 s.n], .slice none 0 0, .int .i64 0]) (by simp [results, Try.results12, go_sem, q0, q1, q2]) rfl ⟨_, n, n, none, 0, 0, rfl, HR9.out, RdI.nothing _, HB9.out⟩
set_option maxRecDepth 100000 in
set_option maxHeartbeats 8000000 in
theorem edge_draw (A : Option Addr) (n c : Nat) (s : St) (r v : Int) (w : World) (hr : Rd w A n c s.l) (hOk : Ok s) (h : plc r s.l < s.l.length ∧ plc v s.l < s.l.length) (hs : (r == v) = false) (ho : onceB (s.l[plc r s.l]'h.1) (s.l[plc v s.l]'h.2) = true) (m : List Tx) (G : List Int) (hR : draR s.l (plc r s.l) (plc v s.l) (s.l[plc r s.l]'h.1) (s.l[plc v s.l]'h.2) = (m, G)) :
    Calls Try.prog 12 #[.agg #[.slice A n c, .int .i64 s.c, .int .i64 s.n], .int .i64 r, .int .i64 v] w (AnsL (⟨m, s.c, s.n⟩, G, 0) w) := by
  have hlen := hr.len
  have HCK := Lib.hid fun W (hb : Below w.heap.size w W) => check_any A n c s W (hr.below hb)
  obtain ⟨hx, hy, hb0⟩ := two3 w (.slice A n c) (.int .i64 s.c) (.int .i64 s.n) (.slice none 0 0) (.int .i64 0) (.int .i64 0) 28
  have HX := Lib.hid hx
  have HY := Lib.hid hy
  have HB0 := Lib.hid hb0
  have x0 := hx.c0
  have x1 := hx.c1
  have x2 := hx.c2
  have y0 := hy.c0
  have y1 := hy.c1
  have y2 := hy.c2
  have yf0 := hy.f0
  have yf1 := hy.f1
  have yf2 := hy.f2
  clear hx hy hb0
  rw [chk_ok hOk] at HCK
  have hn64 := hOk.len
  have hm1 := mayB_iff.1 (hOk.may _ (List.getElem_mem h.1))
  have hm2 := mayB_iff.1 (hOk.may _ (List.getElem_mem h.2))
  have hxi : 0 < (s.l[plc r s.l]'h.1).i ∧ (s.l[plc r s.l]'h.1).i ≤ 1099511627776 := by
    have h1 := hOk.pos _ (List.getElem_mem h.1)
    have h2 := hOk.lt _ (List.getElem_mem h.1)
    have h3 := hOk.n1
    omega
  have hyi : 0 < (s.l[plc v s.l]'h.2).i ∧ (s.l[plc v s.l]'h.2).i ≤ 1099511627776 := by
    have h1 := hOk.pos _ (List.getElem_mem h.2)
    have h2 := hOk.lt _ (List.getElem_mem h.2)
    have h3 := hOk.n1
    omega
  have hPQ : plc r s.l ≠ plc v s.l := fun e => by
    have h1 := plc_at h.1
    have h2 := plc_at h.2
    have h3 : s.l[plc r s.l]'h.1 = s.l[plc v s.l]'h.2 := by simp only [e]
    rw [h3, h2] at h1
    rw [h1] at hs
    simp at hs
  have hx0 : 0 ≤ (s.l[plc r s.l]'h.1).e := by
    have : (s.l[plc r s.l]'h.1).e ≠ -1 := by simp [onceB] at ho; exact ho.1
    omega
  have hy0 : 0 ≤ (s.l[plc v s.l]'h.2).e := by
    have : (s.l[plc v s.l]'h.2).e ≠ -1 := by simp [onceB] at ho; exact ho.2.1
    omega
  have HXL := Lib.hid (List.getElem?_eq_getElem h.1)
  have HYL := Lib.hid (List.getElem?_eq_getElem h.2)
  have hke := draR_kept HXL.out HYL.out hPQ
  rw [hR] at hke
  have HKE := Lib.hid (hOk.kept hke)
  have HKL := Lib.hid (hke.len.trans hr.len)
  have HRE := Lib.hid hR
  clear hke hR
  clear hm1 hm2
  have hP := h.1
  have hQ := h.2
  have HIR : Hid (idx r s.l = (plc r s.l : Int)) := Lib.hid (if_pos hP)
  have HIV : Hid (idx v s.l = (plc v s.l : Int)) := Lib.hid (if_pos hQ)
  have HPR := Lib.hid fun i W (hb : Below w.heap.size w W) => place_any i A n c s.l W (hr.below hb)
  have HFR := Lib.hid fun W (hb : Below w.heap.size w W) => fresh_any A n c s W (hr.below hb) (by have := hOk.len; omega)
  obtain ⟨ad, rfl, htx⟩ := hr.txn hP
  obtain ⟨ad2, e2, hty⟩ := hr.txn hQ
  injection e2 with e2
  subst e2
  have HTX := Lib.hid htx
  have HTY := Lib.hid hty
  have HX1P := Lib.hid (List.getElem?_eq_getElem hP)
  have HY1P := Lib.hid (List.getElem?_eq_getElem hQ)
  have hPn : plc r s.l < n := by omega
  have hQn : plc v s.l < n := by omega
  have hP2 : (plc r s.l : Int) < (n : Int) := by omega
  have hQ2 : (plc v s.l : Int) < (n : Int) := by omega
  have hcap := hr.le
  have hcap2 := hr.cap
  have hP3 : (plc r s.l : Int) < 9223372036854775807 := by omega
  have hQ3 : (plc v s.l : Int) < 9223372036854775807 := by omega
  have HRNG := Lib.hid hOk
  clear htx hty hr
  have HON := Lib.hid fun W => once_any s.l[plc r s.l] s.l[plc v s.l] W
  rw [ho] at HON
  clear hOk ho
  go_enter Try.func12, Try.ntmps12
  go_upto_region 1 with fail
  generalize (w.alloc (.cells #[.slice (some ad) n c, .int .i64 s.c, .int .i64 s.n] 28)).alloc (.cells #[.slice none 0 0, .int .i64 0, .int .i64 0] 28) = W0 at *
  go_upto_region 4 with (first | (go_at_call 11; (with_reducible refine (HCK.out _ HB0.out).mono ?_); rintro e w1 ⟨rfl, hb1⟩; have HB1 := Lib.hid (thn HB0.out hb1); have HX1 := Lib.hid (HX.out.below hb1); have u0 := HX1.out.c0; have u1 := HX1.out.c1; have u2 := HX1.out.c2; have HY1 := Lib.hid (HY.out.below hb1); have z0 := HY1.out.c0; have z1 := HY1.out.c1; have z2 := HY1.out.c2; have zf0 := HY1.out.f0; have zf1 := HY1.out.f1; have zf2 := HY1.out.f2; clear hb1))
  clear HB0 HX HY x0 x1 x2 y0 y1 y2 yf0 yf1 yf2
  go_cut [10] (fun p wx => ∃ g : Nat, p = .pointer (some ⟨g, 0, none⟩) ∧ w1.heap.size ≤ g ∧ wx.cell? ⟨g, 0, none⟩ = some (.int .i64 (idx r s.l)) ∧ wx.cell? ⟨g, 1, none⟩ = some (.int .i64 (idx v s.l)) ∧ Below w1.heap.size w1 wx)
  case first =>
    have HSO := Lib.hid fun W' (hb : Below w1.heap.size w1 W') => (show Below w1.heap.size w1 W' ∧ W'.cell? ⟨w.heap.size, 0, none⟩ = some (.slice (some ad) n c) from ⟨hb, cell_keep u0 hb⟩)
    have hbW := (Below.refl w1.heap.size w1).drew
    clear z0 z1 z2 zf0 zf1 zf2 u0 u1 u2
    go_region_held3 (fun W' => Below w1.heap.size w1 W' ∧ W'.cell? ⟨w.heap.size, 0, none⟩ = some (.slice (some ad) n c))
      (first | exact HSO.out _ hbW | exact HSO.out _ hq2 | exact HSO.out _ (hq2.alloc hq2.size _) | exact HSO.out _ (hbW.alloc (Nat.le_refl _) _) | exact HSO.out _ ((hq2.setCell (by simp <;> omega) _).setCell (by simp <;> omega) _) | (obtain ⟨s0, _⟩ := ‹Below w1.heap.size w1 _ ∧ _›; exact HSO.out _ (s0.alloc s0.size _)))
      (first | (go_at_call 20; first
        | (have hq0 := hq2; (with_reducible refine (HPR.out _ _ (thn HB1.out <| And.left ‹Below w1.heap.size w1 _ ∧ _›)).mono ?_); rintro e w5 ⟨rfl, hb⟩; first
            | (have hq3 : Below w1.heap.size w1 w5 := thn hq2 hb; (try (have hd0 := cell_keep hc0 hb; have hd1 := cell_keep hc1 hb; have hg0 := (hb.frozen (p := ⟨_, 0, none⟩) (cell_lt hc0)).trans hf0; have hg1 := (hb.frozen (p := ⟨_, 1, none⟩) (cell_lt hc1)).trans hf1)))
            | (have hq3 : Below w1.heap.size w1 w5 := thn (thn hq2 (below1 _ _)) hb; have hd0 := (new2_keep (W := w4) (v := .int .i64 0) (u := .int .i64 0) (t := 61) hb).1; have hd1 := (new2_keep (W := w4) (v := .int .i64 0) (u := .int .i64 0) (t := 61) hb).2.1; have hg0 := (new2_keep (W := w4) (v := .int .i64 0) (u := .int .i64 0) (t := 61) hb).2.2.1; have hg1 := (new2_keep (W := w4) (v := .int .i64 0) (u := .int .i64 0) (t := 61) hb).2.2.2);
           clear hb hq0 hq2; have hq2 := hq3; clear hq3)
        | ((with_reducible refine (HPR.out _ _ (thn HB1.out <| And.left ‹Below w1.heap.size w1 _ ∧ _›)).mono ?_); rintro e w4 ⟨rfl, hb⟩; have hq2 : Below w1.heap.size w1 w4 := thn (And.left ‹Below w1.heap.size w1 _ ∧ _›) hb; have hz4 := hq2.size; (try (have hc0 := (new2_keepD (W := w1) (v := .int .i64 0) (u := .int .i64 0) (t := 61) hb).1; have hc1 := (new2_keepD (W := w1) (v := .int .i64 0) (u := .int .i64 0) (t := 61) hb).2.1; have hf0 := (new2_keepD (W := w1) (v := .int .i64 0) (u := .int .i64 0) (t := 61) hb).2.2.1; have hf1 := (new2_keepD (W := w1) (v := .int .i64 0) (u := .int .i64 0) (t := 61) hb).2.2.2)); (try (have hc0 := (new2_keep (W := w1) (v := .int .i64 0) (u := .int .i64 0) (t := 61) hb).1; have hc1 := (new2_keep (W := w1) (v := .int .i64 0) (u := .int .i64 0) (t := 61) hb).2.1; have hf0 := (new2_keep (W := w1) (v := .int .i64 0) (u := .int .i64 0) (t := 61) hb).2.2.1; have hf1 := (new2_keep (W := w1) (v := .int .i64 0) (u := .int .i64 0) (t := 61) hb).2.2.2)); clear hb)))
    · have hb9 := hq2.alloc hq2.size (.cells #[.int .i64 (idx r s.l), .int .i64 (idx v s.l)] 61)
      have F0 := Lib.hid (cell_last w5 #[.int .i64 (idx r s.l), .int .i64 (idx v s.l)] 61 w5.heap.size 0 rfl)
      have F1 := Lib.hid (cell_last w5 #[.int .i64 (idx r s.l), .int .i64 (idx v s.l)] 61 w5.heap.size 1 rfl)
      have F2 := Lib.hid hq2.size
      have F3 := Lib.hid hb9
      clear hb9 hq2 hbW
      go_wp2_with fail
      go_meet
      exact ⟨_, rfl, F2.out, F0.out, F1.out, F3.out⟩
    all_goals
      obtain ⟨h0, h1⟩ := st2 hd0 hd1 (.int .i64 (idx r s.l)) (.int .i64 (idx v s.l))
      have F0 := Lib.hid h0
      have F1 := Lib.hid h1
      have F3 := Lib.hid (And.left ‹Below w1.heap.size w1 _ ∧ _›)
      have F2 := Lib.hid hz4
      clear h0 h1 hq2 hbW hd0 hd1 hg0 hg1 hz4
      go_wp2_with fail
      go_meet
      exact ⟨_, rfl, by have := F2.out; omega, F0.out, F1.out, F3.out⟩
  case rest =>
  obtain ⟨g, rfl, hg, hg0, hg1, hb⟩ := hcut
  have HBC := Lib.hid (thn HB1.out hb)
  have HXC := Lib.hid (HX1.out.below hb)
  have HYC := Lib.hid (HY1.out.below hb)
  have HGG := Lib.hid hg
  clear hb hg z0 z1 z2 zf0 zf1 zf2 u0 u1 u2
  have hgl := cell_lt hg0
  clear HPR
  rw [HIR.out] at hg0
  rw [HIV.out] at hg1
  clear HIR HIV
  generalize hTx : s.l[plc r s.l] = x at *
  generalize hTy : s.l[plc v s.l] = y at *
  generalize plc r s.l = P at *
  generalize plc v s.l = Q at *
  clear hTx hTy
  have hn1 : ¬ (P : Int) < 0 := by omega
  have hn2 : ¬ (Q : Int) < 0 := by omega
  have hg0' : Hid (wc.cell? ⟨g, 0, none⟩ = some (.int .i64 P)) := Lib.hid hg0
  have hg1' : Hid (wc.cell? ⟨g, 1, none⟩ = some (.int .i64 Q)) := Lib.hid hg1
  obtain ⟨x0, x1, x2, _, _, _⟩ := HXC.out
  go_upto_region 8 with (go_at_call 17; (with_reducible refine (HFR.out _ HBC.out).mono ?_); rintro e w6 ⟨gr, rfl, hown, hgr, hgrl, hb6⟩; have HB6 := Lib.hid (thn HBC.out hb6); have HX6 := Lib.hid (HXC.out.below hb6); have HY6 := Lib.hid (HYC.out.below hb6); have HG0 := Lib.hid (cell_keep hg0 hb6); have HG1 := Lib.hid (cell_keep hg1 hb6); have HO6 := Lib.hid (row_of_own hown); have HGR := Lib.hid hgr; have HGRL := Lib.hid hgrl; have HYY := Lib.hid HYC.out.lt; have HGL := Lib.hid (show g < wc.heap.size from hgl); clear hb6 hown hgr hgrl)
  have hb7 := below1 w6 (.cells #[.slice (some ⟨gr, 0, none⟩) n n, .int .i64 s.c, .int .i64 s.n] 28)
  have HB7 := Lib.hid (thn HB6.out hb7)
  have HX7 := Lib.hid (HX6.out.below hb7)
  have HY7 := Lib.hid (HY6.out.below hb7)
  have HZ7 := Lib.hid (Bx.new w6 (.slice (some ⟨gr, 0, none⟩) n n) (.int .i64 s.c) (.int .i64 s.n) 28)
  have HO7 := Lib.hid (HO6.out.below hb7)
  have HG07 := Lib.hid (cell_keep HG0.out hb7)
  have HG17 := Lib.hid (cell_keep HG1.out hb7)
  have HT7 := Lib.hid (HTX.out _ HB7.out)
  have HU7 := Lib.hid (HTY.out _ HB7.out)
  have HN1 := Lib.hid (show w.heap.size + 1 < g ∧ g < gr ∧ gr < w6.heap.size from by
    have h1 := HYY.out
    have h2 := HGR.out
    have h3 := HGRL.out
    have h4 := HGL.out
    have h5 := HY1.out.lt
    have h6 := HGG.out
    omega)
  clear HBC HXC HYC HB6 HX6 HY6 HG0 HG1 HO6 HGR HGRL HYY HGL HTX HTY hg0 hg1 hg0' hg1' x0 x1 x2 hb7 hgl HFR HGG HX1 HY1 HB1
  generalize w6.alloc (.cells #[.slice (some ⟨gr, 0, none⟩) n n, .int .i64 s.c, .int .i64 s.n] 28) = W7 at *
  generalize w6.heap.size = gn at *
  have x0 := HX7.out.c0
  have a0 := HG07.out
  have a1 := HG17.out
  obtain ⟨tl, t0, t1, t2, t3, t4⟩ := HT7.out
  obtain ⟨ul, v0, v1, v2, v3, v4⟩ := HU7.out
  have hz1 := cell_lt x0
  have hz2 := cell_lt a0
  have q0 := cell_regrown x0
  have q1 := cell_regrown a0
  have q2 := cell_regrown a1
  have q3 := cell_regrown t0
  have q4 := cell_regrown t1
  have q5 := cell_regrown t2
  have q6 := cell_regrown t3
  have q7 := cell_regrown t4
  have q8 := cell_regrown v0
  have q9 := cell_regrown v1
  have qa := cell_regrown v2
  have qb := cell_regrown v3
  have qc := cell_regrown v4
  clear x0 a0 a1 t0 t1 t2 t3 t4 v0 v1 v2 v3 v4
  refine wp_region_quiet_below (by kernel_rfl) (by kernel_rfl) ?_
  repeat (go_big_quiet_step (with_reducible exact Calls.regrown_of (HON.out _)))
  refine wpQuiet_nil ?_
  intro w8 hw8
  obtain ⟨pp, rfl⟩ := hw8
  have hb8 := below_regrown W7 pp.d pp.os
  have HB8 := Lib.hid (thn HB7.out hb8)
  have HY8 := Lib.hid (HY7.out.below hb8)
  have HZ8 := Lib.hid (HZ7.out.below hb8)
  have HO8 := Lib.hid (HO7.out.below hb8)
  have HG8 := Lib.hid (cell_keep HG07.out hb8)
  have HH8 := Lib.hid (cell_keep HG17.out hb8)
  clear q0 q1 q2 q3 q4 q5 q6 q7 q8 q9 qa qb qc hb8 HT7 HU7
  generalize grow (redrawn W7 pp.d) pp.os = W8 at *
  have hrow8 := HO8.out.below (Below.refl W8.heap.size W8).drew
  have HDR := Lib.hid fun W (hr : Row W gr s.l) => draw_any gr n P Q s.l x y W hr hlen (by omega) HXL.out HYL.out hPQ hx0 hy0 hxi hyi
  have hre := HRE.out
  simp only [hre] at HDR
  have HK := HKE
  have HROW := Lib.hid hrow8
  clear hrow8 HKE hre HRE
  obtain ⟨z0, z1, z2, _, _, _⟩ := HZ8.out
  have a0 := HG8.out
  have a1 := HH8.out
  have hne1 : ¬ w.heap.size + 1 = gn := by have := HN1.out; omega
  have hne2 : ¬ gn = w.heap.size + 1 := by omega
  have hne3 : ¬ w.heap.size + 1 = g := by have := HN1.out; omega
  have hne4 : ¬ g = w.heap.size + 1 := by omega
  have HSO := Lib.hid (show Sq gn g (w.heap.size + 1) gr n P Q s.c s.n W8.drew from Sq.mk' (HZ8.out.below (Below.refl _ _).drew) a0 a1 (HY8.out.below (Below.refl _ _).drew))
  have HBD := Lib.hid HB8.out.drew
  have HYD := Lib.hid (HY8.out.below (Below.refl _ _).drew)
  have HZD := Lib.hid (HZ8.out.below (Below.refl _ _).drew)
  have HGD : Hid (W8.drew.cell? ⟨g, 0, none⟩ = some (.int .i64 P)) := Lib.hid a0
  have HHD : Hid (W8.drew.cell? ⟨g, 1, none⟩ = some (.int .i64 Q)) := Lib.hid a1
  have HSZ : Hid (W8.drew.heap.size = W8.heap.size) := Lib.hid rfl
  have HLY := Lib.hid HY8.out.lt
  clear z0 z1 z2 a0 a1
  go_upto_region 10 with fail
  go_region_held3 (fun W' => W'.cell? ⟨gn, 0, none⟩ = some (.slice (some ⟨gr, 0, none⟩) n n) ∧ W'.cell? ⟨gn, 1, none⟩ = some (.int .i64 s.c) ∧ W'.cell? ⟨gn, 2, none⟩ = some (.int .i64 s.n) ∧ W'.cell? ⟨g, 0, none⟩ = some (.int .i64 P) ∧ W'.cell? ⟨g, 1, none⟩ = some (.int .i64 Q) ∧ W'.cell? ⟨w.heap.size + 1, 0, none⟩ = some (ct W' ⟨w.heap.size + 1, 0, none⟩) ∧ W'.cell? ⟨w.heap.size + 1, 1, none⟩ = some (ct W' ⟨w.heap.size + 1, 1, none⟩) ∧ W'.cell? ⟨w.heap.size + 1, 2, none⟩ = some (ct W' ⟨w.heap.size + 1, 2, none⟩) ∧ W'.frozen? ⟨w.heap.size + 1, 0, none⟩ = false ∧ W'.frozen? ⟨w.heap.size + 1, 1, none⟩ = false ∧ W'.frozen? ⟨w.heap.size + 1, 2, none⟩ = false)
    (first | exact HSV.out | exact HS9.out | exact HSO.out)
    (first | (go_at_call 22; (with_reducible refine (HDR.out _ HROW.out).mono ?_); rintro e w9 ⟨v9, rfl, ho9, hr9, hg9⟩; obtain ⟨B9, d9, rfl⟩ := own_slice ho9; have HO9 := Lib.hid ho9; have HR9 := Lib.hid hr9; have HB9 := Lib.hid hg9; have HY9 := Lib.hid (HYD.out.grown hg9 (by have := HN1.out; omega)); have HZ9 := Lib.hid (HZD.out.grown hg9 (by have := HN1.out; omega)); have HG9 := Lib.hid (cell_of_grown (p := ⟨g, 0, none⟩) hg9 (by have := HN1.out; show g ≠ gr; omega) HGD.out); have HH9 := Lib.hid (cell_of_grown (p := ⟨g, 1, none⟩) hg9 (by have := HN1.out; show g ≠ gr; omega) HHD.out); have HS9 := Lib.hid (show Sq gn g (w.heap.size + 1) gr n P Q s.c s.n w9 from Sq.mk' HZ9.out HG9.out HH9.out HY9.out); have HSV := Lib.hid (show Sq gn g (w.heap.size + 1) gr n P Q s.c s.n (((w9.setCell ⟨w.heap.size + 1, 0, none⟩ (.slice (some ⟨gr, 0, none⟩) n n)).setCell ⟨w.heap.size + 1, 1, none⟩ (.int .i64 s.c)).setCell ⟨w.heap.size + 1, 2, none⟩ (.int .i64 s.n)) from Sq.mk' (((HZ9.out.other _ _ (by simp <;> omega)).other _ _ (by simp <;> omega)).other _ _ (by simp <;> omega)) (by rw [World.cell?_setCell_other _ _ _ _ (by simp <;> omega), World.cell?_setCell_other _ _ _ _ (by simp <;> omega), World.cell?_setCell_other _ _ _ _ (by simp <;> omega)]; exact HG9.out) (by rw [World.cell?_setCell_other _ _ _ _ (by simp <;> omega), World.cell?_setCell_other _ _ _ _ (by simp <;> omega), World.cell?_setCell_other _ _ _ _ (by simp <;> omega)]; exact HH9.out) (HY9.out.set3 _ _ _)); clear ho9 hr9 hg9))
  all_goals
    have HRF := Lib.hid (((HR9.out.other ⟨w.heap.size + 1, 0, none⟩ (.slice (some ⟨gr, 0, none⟩) n n) (by have := HN1.out; simp <;> omega)).other ⟨w.heap.size + 1, 1, none⟩ (.int .i64 s.c) (by have := HN1.out; simp <;> omega)).other ⟨w.heap.size + 1, 2, none⟩ (.int .i64 s.n) (by have := HN1.out; simp <;> omega))
    have HRR := Lib.hid (HRF.out.rd (n := n) HKL.out (by omega) HK.out.rng)
    have hfar : (Value.slice B9 G.length d9).ownBlock ≠ some (w.heap.size + 1) := fun e => by
      have h1 := (HO9.out.lt _ e).1
      have h2 := HSZ.out
      have h3 := HLY.out
      omega
    have HOF := Lib.hid (own_other (own_other (own_other HO9.out ⟨w.heap.size + 1, 0, none⟩ (.slice (some ⟨gr, 0, none⟩) n n) hfar) ⟨w.heap.size + 1, 1, none⟩ (.int .i64 s.c) hfar) ⟨w.heap.size + 1, 2, none⟩ (.int .i64 s.n) hfar)
    have HIF := Lib.hid (RdI.of_own' HOF.out)
    have HBF := Lib.hid ((((HBD.out.grown HB9.out HBD.out.size (fun k hk => by injection hk with hk; have := HN1.out; omega)).setCell (p := ⟨w.heap.size + 1, 0, none⟩) (by simp) (.slice (some ⟨gr, 0, none⟩) n n)).setCell (p := ⟨w.heap.size + 1, 1, none⟩) (by simp) (.int .i64 s.c)).setCell (p := ⟨w.heap.size + 1, 2, none⟩) (by simp) (.int .i64 s.n))
    obtain ⟨q0, q1, q2, _, _, _⟩ := HY9.out.set3 (.slice (some ⟨gr, 0, none⟩) n n) (.int .i64 s.c) (.int .i64 s.n)
    go_wp2_with fail
    exact bodyPost_ret (v := .tuple #[.agg #[.slice (some ⟨gr, 0, none⟩) n n, .int .i64 s.c, .int .i64 s.n], .slice B9 G.length d9, .int .i64 0]) (by simp [results, Try.results12, go_sem, q0, q1, q2]) rfl ⟨_, n, n, B9, G.length, d9, rfl, HRR.out, HIF.out, HBF.out⟩
theorem edge_any (A : Option Addr) (n c : Nat) (s : St) (r v : Int) (w : World) (hr : Rd w A n c s.l) :
    Calls Try.prog 12 #[.agg #[.slice A n c, .int .i64 s.c, .int .i64 s.n], .int .i64 r, .int .i64 v] w (AnsL (edgR s r v) w) := by
  by_cases hOk : Ok s
  · by_cases h : plc r s.l < s.l.length ∧ plc v s.l < s.l.length
    · by_cases hs : r = v
      · have e : edgR s r v = (s, [], 0) := by unfold edgR; rw [if_pos hOk, dif_pos h, if_pos (.inl hs)]
        rw [e]
        exact edge_one A n c s r v w hr hOk h (by simpa using hs)
      · cases ho : onceB (s.l[plc r s.l]'h.1) (s.l[plc v s.l]'h.2)
        · have e : edgR s r v = (s, [], 0) := by unfold edgR; rw [if_pos hOk, dif_pos h, if_pos (.inr ho)]
          rw [e]
          exact edge_apart A n c s r v w hr hOk h (by simpa using hs) ho
        · have e : edgR s r v = (⟨(draR s.l (plc r s.l) (plc v s.l) (s.l[plc r s.l]'h.1) (s.l[plc v s.l]'h.2)).1, s.c, s.n⟩, (draR s.l (plc r s.l) (plc v s.l) (s.l[plc r s.l]'h.1) (s.l[plc v s.l]'h.2)).2, 0) := by
            unfold edgR; rw [if_pos hOk, dif_pos h, if_neg (by rw [ho]; simp [hs])]
          rw [e]
          exact edge_draw A n c s r v w hr hOk h (by simpa using hs) ho _ _ rfl
    · have e : edgR s r v = (zS, [], 71) := by unfold edgR; rw [if_pos hOk, dif_neg h]
      rw [e]
      exact edge_none A n c s r v w hr hOk h
  · have e : edgR s r v = (zS, [], 9) := if_neg hOk
    rw [e]
    exact edge_bad A n c s r v w hr hOk
end Go.Proofs.Ytlcmpngjmmbkcaa
