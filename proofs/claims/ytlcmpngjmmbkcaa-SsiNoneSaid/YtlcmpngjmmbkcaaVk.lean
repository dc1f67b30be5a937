/- What Retire of package ssi makes of any state: the walk. Conditions: a state that is read in memory. -/
import Derived.Test.YtlcmpngjmmbkcaaVj
namespace Go.Proofs.Ytlcmpngjmmbkcaa
open Go.RowKit Go.Sort Go.Maps
set_option linter.unusedSimpArgs false
set_option linter.unusedVariables false

open Classical in
/-- What Retire answers. -/
noncomputable def retR (s : St) : St × List Int × Int :=
  if Ok s then (⟨s.l.filter (fun t => !goB (minS s.c s.l) t), s.c, s.n⟩, (s.l.filter (goB (minS s.c s.l))).map Tx.i, 0) else (zS, [], 9)
/-- Two slices do not lie in one row, nor in these two boxes. -/
structure Ap (a b : Value) (r t : Nat) : Prop where
  two : ∀ k, a.ownBlock = some k → b.ownBlock ≠ some k
  far1 : ∀ k, a.ownBlock = some k → k ≠ r ∧ k ≠ t
  far2 : ∀ k, b.ownBlock = some k → k ≠ r ∧ k ≠ t
theorem filter_step {p : Tx → Bool} {l : List Tx} {j : Nat} (hj : j < l.length) : (l.take (j + 1)).filter p = if p l[j] = true then (l.take j).filter p ++ [l[j]] else (l.take j).filter p := by
  rw [List.take_succ_eq_append_getElem hj, List.filter_append]
  split
  · rename_i h; rw [List.filter_cons_of_pos h]; rfl
  · rename_i h; rw [List.filter_cons_of_neg h]; simp
/-- What stands in memory: what stays (its slice in a box), who goes. -/
structure Rt (w W : World) (b r : Nat) (m v : Value) (ck nx : Int) (l : List Tx) (G : List Int) : Prop where
  box : Bx W b m (.int .i64 ck) (.int .i64 nx)
  res : Bx W r (.slice none 0 0) (.int .i64 0) (.int .i64 0)
  stay : W.ownsRow w.heap.size 35 5 m l.length (txs l)
  gone : W.ownsRow w.heap.size 3 1 v G.length (ints G)
  ap : Ap m v b r
  bel : Below w.heap.size w W
  ne : b ≠ r
section
variable {w W W' : World} {b r : Nat} {m v : Value} {ck nx : Int} {l : List Tx} {G : List Int}
theorem Rt.below (h : Rt w W b r m v ck nx l G) (hb : Below W.heap.size W W') : Rt w W' b r m v ck nx l G :=
  ⟨h.box.below hb, h.res.below hb, own_below h.stay hb, own_below h.gone hb, h.ap, thn h.bel hb, h.ne⟩
theorem Bx.growny {W W' : World} {g : Nat} {a b c : Value} (h : Bx W g a b c) {o : Option Nat} (hg : W.grownBy W' o) (hne : ∀ k, o = some k → k ≠ g) : Bx W' g a b c := h.same (hg.block g h.lt (fun e => hne g e.symm rfl))
/-- One more who goes. -/
theorem Rt.gone_more {v' : Value} {i : Int} (h : Rt w W b r m v ck nx l G) (ho : W'.ownsRow w.heap.size 3 1 v' (G.length + 1) (ints G ++ ints [i])) (hg : W.grownBy W' v.ownBlock) (hn : v'.ownBlock = v.ownBlock ∨ v'.ownBlock = some W.heap.size) : Rt w W' b r m v' ck nx l (G ++ [i]) := by
  have hb := h.box.lt
  have hr := h.res.lt
  refine ⟨h.box.growny hg fun k hk => (h.ap.far2 k hk).1, h.res.growny hg fun k hk => (h.ap.far2 k hk).2, h.stay.kept hg ?_, by rw [ints_app]; simpa using ho, ⟨fun k hk e => ?_, h.ap.far1, fun k hk => ?_⟩, h.bel.grown hg h.bel.size (fun k hk => (h.gone.lt k hk).1), h.ne⟩
  · cases hm : m.ownBlock with
    | none => exact .inl rfl
    | some k => exact .inr fun e => h.ap.two k hm e.symm
  · rcases hn with hn | hn
    · rw [hn] at e; exact h.ap.two k hk e
    · rw [hn] at e
      injection e with e
      have := (h.stay.lt k hk).2
      omega
  · rcases hn with hn | hn
    · rw [hn] at hk; exact h.ap.far2 k hk
    · rw [hn] at hk
      injection hk with hk
      omega
/-- One more who stays: its slice is still to be put into the box. -/
theorem Rt.stay_more {A : Option Addr} {n c : Nat} {t : Tx} (h : Rt w W b r m v ck nx l G) (ho : W'.ownsRow w.heap.size 35 5 (.slice A n c) (l.length + 1) (txs l ++ txs [t])) (hg : W.grownBy W' m.ownBlock) (hn : (Value.slice A n c).ownBlock = m.ownBlock ∨ (Value.slice A n c).ownBlock = some W.heap.size) (hw : w.heap.size ≤ b) : Rt w (W'.setCell ⟨b, 0, none⟩ (.slice A n c)) b r (.slice A n c) v ck nx (l ++ [t]) G := by
  have hb := h.box.lt
  have hr := h.res.lt
  have hfar : ∀ k, (Value.slice A n c).ownBlock = some k → k ≠ b ∧ k ≠ r := fun k hk => by
    rcases hn with hn | hn
    · rw [hn] at hk; exact h.ap.far1 k hk
    · rw [hn] at hk
      injection hk with hk
      omega
  have hbr := h.ne
  have hbm : (Value.slice A n c).ownBlock ≠ some b := fun e => (hfar b e).1 rfl
  have hbv : v.ownBlock ≠ some b := fun e => (h.ap.far2 b e).1 rfl
  have hg2 : W'.ownsRow w.heap.size 3 1 v G.length (ints G) := h.gone.kept hg (by
    cases hv : v.ownBlock with
    | none => exact .inl rfl
    | some k => exact .inr fun e => h.ap.two k e.symm hv)
  refine ⟨(h.box.growny hg fun k hk => (h.ap.far1 k hk).1).set0 _, (h.res.growny hg fun k hk => (h.ap.far1 k hk).2).other _ _ (Ne.symm hbr), by rw [txs_app]; simpa using own_other ho _ _ hbm, own_other hg2 _ _ hbv, ⟨fun k hk e => ?_, hfar, h.ap.far2⟩, (h.bel.grown hg h.bel.size fun k hk => (h.stay.lt k hk).1).setCell hw _, hbr⟩
  rcases hn with hn | hn
  · rw [hn] at hk; exact h.ap.two k hk e
  · rw [hn] at hk
    injection hk with hk
    have := (h.gone.lt k e).2
    omega
end
set_option maxRecDepth 100000 in
set_option maxHeartbeats 8000000 in
theorem retire_any (A : Option Addr) (n c : Nat) (s : St) (w : World) (hr : Rd w A n c s.l) :
    Calls Try.prog 15 #[.agg #[.slice A n c, .int .i64 s.c, .int .i64 s.n]] w (AnsL (retR s) w) := by
  obtain ⟨i0, hi, hz0, hz1, hz2⟩ := info_parts Try.infoV
  obtain ⟨j0, hji, hy0, hy1, hy2⟩ := info_parts Try.infoI
  have hlen := hr.len
  have HCK := Lib.hid fun W (hb : Below w.heap.size w W) => check_any A n c s W (hr.below hb)
  obtain ⟨hx, hy, hb0⟩ := two3 w (.slice A n c) (.int .i64 s.c) (.int .i64 s.n) (.slice none 0 0) (.int .i64 0) (.int .i64 0) 28
  have HX := Lib.hid hx
  have HY := Lib.hid hy
  have HB0 := Lib.hid hb0
  have x0 := hx.c0
  have x1 := hx.c1
  have x2 := hx.c2
  have y0 := hy.c0
  have y1 := hy.c1
  have y2 := hy.c2
  have yf0 := hy.f0
  have yf1 := hy.f1
  have yf2 := hy.f2
  clear hx hy hb0
  by_cases hOk : Ok s
  · rw [chk_ok hOk] at HCK
    have hret : retR s = (⟨s.l.filter (fun t => !goB (minS s.c s.l) t), s.c, s.n⟩, (s.l.filter (goB (minS s.c s.l))).map Tx.i, 0) := if_pos hOk
    rw [hret]
    have HOK := Lib.hid (hOk.sub (List.filter_sublist (l := s.l) (p := fun t => !goB (minS s.c s.l) t)))
    have HOL := Lib.hid fun W (hb : Below w.heap.size w W) => oldest_any A n c s W (hr.below hb)
    have hn64 := hOk.len
    have HR := Lib.hid hr
    clear hret hOk hr
    generalize minS s.c s.l = X at *
    go_enter Try.func15, Try.ntmps15
    go_upto_region 1 with fail
    generalize (w.alloc (.cells #[.slice A n c, .int .i64 s.c, .int .i64 s.n] 28)).alloc (.cells #[.slice none 0 0, .int .i64 0, .int .i64 0] 28) = W0 at *
    go_upto_region 6 with (first | (go_at_call 11; (with_reducible refine (HCK.out _ HB0.out).mono ?_); rintro e w1 ⟨rfl, hb1⟩; have HB1 := Lib.hid (thn HB0.out hb1); have HX1 := Lib.hid (HX.out.below hb1); have u0 := HX1.out.c0; have u1 := HX1.out.c1; have u2 := HX1.out.c2; have HY1 := Lib.hid (HY.out.below hb1); have z0 := HY1.out.c0; have z1 := HY1.out.c1; have z2 := HY1.out.c2; have zf0 := HY1.out.f0; have zf1 := HY1.out.f1; have zf2 := HY1.out.f2; clear hb1) | (go_at_call 25; (with_reducible refine (HOL.out _ HB1.out).mono ?_); rintro e w2 ⟨rfl, hb2⟩; have HB2 := Lib.hid (thn HB1.out hb2); have HX2 := Lib.hid (HX1.out.below hb2); have u0 := HX2.out.c0; have u1 := HX2.out.c1; have u2 := HX2.out.c2; have HY2 := Lib.hid (HY1.out.below hb2); clear hb2))
    have hb3 := below1 w2 (.cells #[.slice none 0 0, .int .i64 s.c, .int .i64 s.n] 28)
    have HT3 : Hid (Rt w (w2.alloc (.cells #[.slice none 0 0, .int .i64 s.c, .int .i64 s.n] 28)) w2.heap.size (w.heap.size + 1) (.slice none 0 0) (.slice none 0 0) s.c s.n [] []) := Lib.hid ⟨Bx.new w2 _ _ _ _, HY2.out.below hb3, World.ownsRow_nil _ _ _ _, World.ownsRow_nil _ _ _ _, ⟨fun k hk => (by cases hk), fun k hk => (by cases hk), fun k hk => (by cases hk)⟩, thn HB2.out hb3, by have := HY2.out.lt; omega⟩
    have HX3 := Lib.hid (HX2.out.below hb3)
    have HWB : Hid (w.heap.size ≤ w2.heap.size) := Lib.hid HB2.out.size
    clear HB0 HB1 HB2 HX HX1 HX2 HY HY1 HY2 x0 x1 x2 y0 y1 y2 yf0 yf1 yf2 u0 u1 u2 z0 z1 z2 zf0 zf1 zf2 hb3
    generalize w2.alloc (.cells #[.slice none 0 0, .int .i64 s.c, .int .i64 s.n] 28) = W3 at *
    generalize w2.heap.size = b at *
    have u0 := HX3.out.c0
    subst hlen
    go_wp2_with fail
    go_loopw [8, 10, 27] (fun v _ x wr => ∃ (j : Nat) (m : Value), j ≤ s.l.length ∧ x = .int .i64 j ∧ Rt w wr b (w.heap.size + 1) m v s.c s.n ((s.l.take j).filter fun t => !goB X t) (((s.l.take j).filter (goB X)).map Tx.i)) (fun _ _ x _ => s.l.length - (intOf x).toNat)
    case atStart => exact ⟨0, _, by omega, rfl, HT3.out⟩
    case round =>
      obtain ⟨j, m, hj, rfl, hT⟩ := hrel
      have HT := Lib.hid hT
      clear hT HT3
      by_cases hlt : j < s.l.length
      · obtain ⟨ad, rfl, t0, t1, t2, t3, t4⟩ := (HR.out.below HT.out.bel).at_ hlt
        have hb0 := cell_lt t0
        rw [add_block] at hb0
        have HF1 := Lib.hid (filter_step (p := fun t => !goB X t) hlt)
        have HF2 := Lib.hid (filter_step (p := goB X) hlt)
        have HGA := Lib.hid fun W => isAhead_any s.l[j] X W
        have hgo : goB X s.l[j] = (decide (s.l[j].e = -1) || ahdB X s.l[j]) := rfl
        have hm1 : ((s.l.take j).filter fun t => !goB X t).length ≤ 64 := Nat.le_trans (List.length_filter_le _ _) (by rw [List.length_take]; omega)
        have hm2 : (((s.l.take j).filter (goB X)).map Tx.i).length ≤ 64 := by rw [List.length_map]; exact Nat.le_trans (List.length_filter_le _ _) (by rw [List.length_take]; omega)
        generalize (s.l.take j).filter (goB X) = F2 at *
        generalize (s.l.take j).filter (fun t => !goB X t) = F1 at *
        generalize s.l[j] = v at *
        have HM1 := Lib.hid hm1
        have HM2 := Lib.hid hm2
        have HGO := Lib.hid hgo
        clear hm1 hm2 hgo
        obtain ⟨A4, c4, rfl⟩ := own_slice HT.out.stay
        by_cases he : v.e = -1
        · have hp : goB X v = true := by rw [HGO.out, decide_eq_true he]; rfl
          have HS1 : Hid ((s.l.take (j + 1)).filter (fun t => !goB X t) = F1) := Lib.hid (by have := HF1.out; rw [hp] at this; simpa using this)
          have HS2 : Hid ((s.l.take (j + 1)).filter (goB X) = F2 ++ [v]) := Lib.hid (by have := HF2.out; rw [hp] at this; simpa using this)
          have he' : (v.e == -1) = true := by simpa using he
          have HT5 := Lib.hid (HT.out.below (below1 wr (.cells #[.int .i64 v.i, .int .i64 v.s, .int .i64 v.e, .bool v.a, .bool v.o] 35)))
          clear he hp HF1 HF2
          go_upto_region 11 with fail
          have c0 := cell_last wr #[.int .i64 v.i, .int .i64 v.s, .int .i64 v.e, .bool v.a, .bool v.o] 35 wr.heap.size 0 rfl
          have hz5 := cell_lt c0
          generalize wr.alloc (.cells #[.int .i64 v.i, .int .i64 v.s, .int .i64 v.e, .bool v.a, .bool v.o] 35) = W5 at *
          have HT7 := Lib.hid (HT5.out.below (below1 W5 (.cells #[.int .i64 v.i] 3)))
          go_wp2_with (at_builtin; refine wpList_append_own_at _ rfl _ _ 37 rfl w.heap.size 3 j0 (.int .i64 0) 1 8 Try.underlying37 hji hy0 hy1 hy2 rfl (by decide) _ _ _ rfl HT7.out.gone ⟨W5.heap.size, 0, none⟩ 1 1 (ints [v.i]) rfl rfl (int_news _ v.i) (ints_one _) (by have := HM2.out; unfold maxLen; omega) (by have := HM2.out; omega) HT7.out.bel.size ?_; intro v9 w9 hown9 hg9 _ hn9; have HT9 := Lib.hid (HT7.out.gone_more hown9 hg9 hn9); clear hown9 hg9 hn9)
          go_roundw
          case rel => exact ⟨j + 1, _, hlt, by go_num, by rw [HS1.out, HS2.out, List.map_append]; exact HT9.out⟩
          case measure => simp [intOf]; omega
        · have he' : (v.e == -1) = false := by simpa using he
          have hgo2 : goB X v = ahdB X v := by rw [HGO.out, decide_eq_false he]; rfl
          clear he
          cases hp : ahdB X v
          · rw [hp] at hgo2 HGA
            have HS1 : Hid ((s.l.take (j + 1)).filter (fun t => !goB X t) = F1 ++ [v]) := Lib.hid (by have := HF1.out; rw [hgo2] at this; simpa using this)
            have HS2 : Hid ((s.l.take (j + 1)).filter (goB X) = F2) := Lib.hid (by have := HF2.out; rw [hgo2] at this; simpa using this)
            clear hp hgo2 HF1 HF2 HGO
            go_wp2_with (first | (go_at_call 26; (with_reducible refine (HGA.out _).mono ?_); rintro e w6 ⟨rfl, hb6⟩; obtain ⟨e0, e1, e2, e3, e4, hb6', hz6⟩ := box5 hb6; have HT6 := Lib.hid (HT.out.below hb6'); clear hb6 hb6'; have k0 := HT6.out.box.c0; have kf := HT6.out.box.f0; have hkl := HT6.out.box.lt; have HT7 := Lib.hid (HT6.out.below (below1 w6 (.cells #[.int .i64 v.i] 3))); have HT8 := Lib.hid (HT6.out.below (below1 w6 (.cells #[.int .i64 v.i, .int .i64 v.s, .int .i64 v.e, .bool v.a, .bool v.o] 35)))) | (at_builtin; refine wpList_append_own_at _ rfl _ _ 26 rfl w.heap.size 35 i0 (.agg #[.int .i64 0, .int .i64 0, .int .i64 0, .bool false, .bool false]) 5 32 Try.underlying26 hi hz0 hz1 hz2 rfl (by decide) _ _ _ rfl HT8.out.stay ⟨w6.heap.size, 0, none⟩ 1 1 (txs [v]) rfl rfl (lit_news w6 v) (txs_one _) (by have := HM1.out; unfold maxLen; omega) (by have := HM1.out; omega) HT8.out.bel.size ?_; intro v9 w9 hown9 hg9 _ hn9; obtain ⟨A9, c9, rfl⟩ := own_slice hown9; have HT9 := Lib.hid (HT8.out.stay_more (t := v) hown9 hg9 hn9 HWB.out); have k0 := (HT8.out.box.growny hg9 fun k hk => (HT8.out.ap.far1 k hk).1).c0; have kf := (HT8.out.box.growny hg9 fun k hk => (HT8.out.ap.far1 k hk).1).f0; clear hown9 hg9 hn9))
            go_roundw
            case rel => exact ⟨j + 1, _, hlt, by go_num, by rw [HS1.out, HS2.out]; exact HT9.out⟩
            case measure => simp [intOf]; omega
          · rw [hp] at hgo2 HGA
            have HS1 : Hid ((s.l.take (j + 1)).filter (fun t => !goB X t) = F1) := Lib.hid (by have := HF1.out; rw [hgo2] at this; simpa using this)
            have HS2 : Hid ((s.l.take (j + 1)).filter (goB X) = F2 ++ [v]) := Lib.hid (by have := HF2.out; rw [hgo2] at this; simpa using this)
            clear hp hgo2 HF1 HF2 HGO
            go_wp2_with (first | (go_at_call 26; (with_reducible refine (HGA.out _).mono ?_); rintro e w6 ⟨rfl, hb6⟩; obtain ⟨e0, e1, e2, e3, e4, hb6', hz6⟩ := box5 hb6; have HT6 := Lib.hid (HT.out.below hb6'); clear hb6 hb6'; have k0 := HT6.out.box.c0; have kf := HT6.out.box.f0; have hkl := HT6.out.box.lt; have HT7 := Lib.hid (HT6.out.below (below1 w6 (.cells #[.int .i64 v.i] 3))); have HT8 := Lib.hid (HT6.out.below (below1 w6 (.cells #[.int .i64 v.i, .int .i64 v.s, .int .i64 v.e, .bool v.a, .bool v.o] 35)))) | (at_builtin; refine wpList_append_own_at _ rfl _ _ 37 rfl w.heap.size 3 j0 (.int .i64 0) 1 8 Try.underlying37 hji hy0 hy1 hy2 rfl (by decide) _ _ _ rfl HT7.out.gone ⟨w6.heap.size, 0, none⟩ 1 1 (ints [v.i]) rfl rfl (int_news _ v.i) (ints_one _) (by have := HM2.out; unfold maxLen; omega) (by have := HM2.out; omega) HT7.out.bel.size ?_; intro v9 w9 hown9 hg9 _ hn9; have HT9 := Lib.hid (HT7.out.gone_more hown9 hg9 hn9); clear hown9 hg9 hn9))
            go_roundw
            case rel => exact ⟨j + 1, _, hlt, by go_num, by rw [HS1.out, HS2.out, List.map_append]; exact HT9.out⟩
            case measure => simp [intOf]; omega
      · obtain rfl : j = s.l.length := by omega
        have hT := HT.out
        rw [List.take_length] at hT
        have HT4 := Lib.hid hT
        clear hT HT
        obtain ⟨A4, c4, rfl⟩ := own_slice HT4.out.stay
        obtain ⟨B4, d4, rfl⟩ := own_slice HT4.out.gone
        have hfm : (Value.slice A4 (s.l.filter fun t => !goB X t).length c4).ownBlock ≠ some (w.heap.size + 1) := fun e => (HT4.out.ap.far1 _ e).2 rfl
        have hfv : (Value.slice B4 ((s.l.filter (goB X)).map Tx.i).length d4).ownBlock ≠ some (w.heap.size + 1) := fun e => (HT4.out.ap.far2 _ e).2 rfl
        have HRF := Lib.hid (Rd.of_own' (own_other (own_other (own_other HT4.out.stay ⟨w.heap.size + 1, 0, none⟩ (.slice A4 (s.l.filter fun t => !goB X t).length c4) hfm) ⟨w.heap.size + 1, 1, none⟩ (.int .i64 s.c) hfm) ⟨w.heap.size + 1, 2, none⟩ (.int .i64 s.n) hfm) HOK.out.rng)
        have HIF := Lib.hid (RdI.of_own' (own_other (own_other (own_other HT4.out.gone ⟨w.heap.size + 1, 0, none⟩ (.slice A4 (s.l.filter fun t => !goB X t).length c4) hfv) ⟨w.heap.size + 1, 1, none⟩ (.int .i64 s.c) hfv) ⟨w.heap.size + 1, 2, none⟩ (.int .i64 s.n) hfv))
        have HBF := Lib.hid (((HT4.out.bel.setCell (p := ⟨w.heap.size + 1, 0, none⟩) (by simp) (.slice A4 (s.l.filter fun t => !goB X t).length c4)).setCell (p := ⟨w.heap.size + 1, 1, none⟩) (by simp) (.int .i64 s.c)).setCell (p := ⟨w.heap.size + 1, 2, none⟩) (by simp) (.int .i64 s.n))
        obtain ⟨z0, z1, z2, _, _, _⟩ := HT4.out.box
        obtain ⟨y0, y1, y2, yf0, yf1, yf2⟩ := HT4.out.res
        obtain ⟨q0, q1, q2, _, _, _⟩ := HT4.out.res.set3 (.slice A4 (s.l.filter fun t => !goB X t).length c4) (.int .i64 s.c) (.int .i64 s.n)
        have HXY := Lib.hid (show AnsL (⟨s.l.filter fun t => !goB X t, s.c, s.n⟩, (s.l.filter (goB X)).map Tx.i, 0) w (.returned (.tuple #[.agg #[.slice A4 (s.l.filter fun t => !goB X t).length c4, .int .i64 s.c, .int .i64 s.n], .slice B4 ((s.l.filter (goB X)).map Tx.i).length d4, .int .i64 0])) _ from ⟨_, _, _, _, _, _, rfl, HRF.out, HIF.out, HBF.out⟩)
        clear HRF HIF HBF hfm hfv HT4
        generalize (s.l.filter fun t => !goB X t).length = n1 at *
        generalize ((s.l.filter (goB X)).map Tx.i).length = n2 at *
        go_wp2_with fail
        exact bodyPost_ret (v := .tuple #[.agg #[.slice A4 n1 c4, .int .i64 s.c, .int .i64 s.n], .slice B4 n2 d4, .int .i64 0]) (by simp [results, Try.results15, go_sem, q0, q1, q2]) rfl HXY.out
  · rw [chk_bad hOk] at HCK
    have hret : retR s = (zS, [], 9) := if_neg hOk
    rw [hret]
    clear hret
    go_enter Try.func15, Try.ntmps15
    go_upto_region 1 with fail
    generalize (w.alloc (.cells #[.slice A n c, .int .i64 s.c, .int .i64 s.n] 28)).alloc (.cells #[.slice none 0 0, .int .i64 0, .int .i64 0] 28) = W0 at *
    go_wp2_with (first | (go_at_call 11; (with_reducible refine (HCK.out _ HB0.out).mono ?_); rintro e w1 ⟨rfl, hb1⟩; have HB1 := Lib.hid (thn HB0.out hb1); have HX1 := Lib.hid (HX.out.below hb1); have u0 := HX1.out.c0; have u1 := HX1.out.c1; have u2 := HX1.out.c2; have HY1 := Lib.hid (HY.out.below hb1); have z0 := HY1.out.c0; have z1 := HY1.out.c1; have z2 := HY1.out.c2; have zf0 := HY1.out.f0; have zf1 := HY1.out.f1; have zf2 := HY1.out.f2; clear hb1))
    obtain ⟨q0, q1, q2, _, _, _⟩ := HY1.out.set3 (.slice none 0 0) (.int .i64 0) (.int .i64 0)
    exact bodyPost_ret (v := .tuple #[.agg #[.slice none 0 0, .int .i64 0, .int .i64 0], .slice none 0 0, .int .i64 9]) (by simp [results, Try.results15, go_sem, q0, q1, q2]) rfl (AnsL.zero _ (((HB1.out.setCell (by simp) _).setCell (by simp) _).setCell (by simp) _))
end Go.Proofs.Ytlcmpngjmmbkcaa
