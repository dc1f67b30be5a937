/- What Begin of package ssi makes of any state: the walk. Conditions: a state that is read in memory. -/
import Derived.Test.YtlcmpngjmmbkcaaVe
namespace Go.Proofs.Ytlcmpngjmmbkcaa
open Go.RowKit Go.Sort Go.Maps
set_option linter.unusedSimpArgs false
set_option linter.unusedVariables false

/-- A box of three cells that may be written. -/
structure Bx (W : World) (g : Nat) (a b c : Value) : Prop where
  c0 : W.cell? ⟨g, 0, none⟩ = some a
  c1 : W.cell? ⟨g, 1, none⟩ = some b
  c2 : W.cell? ⟨g, 2, none⟩ = some c
  f0 : W.frozen? ⟨g, 0, none⟩ = false
  f1 : W.frozen? ⟨g, 1, none⟩ = false
  f2 : W.frozen? ⟨g, 2, none⟩ = false
section
variable {W W' : World} {g : Nat} {a b c : Value}
theorem Bx.lt (h : Bx W g a b c) : g < W.heap.size := cell_lt h.c0
theorem Bx.below (h : Bx W g a b c) (hb : Below W.heap.size W W') : Bx W' g a b c :=
  ⟨cell_keep h.c0 hb, cell_keep h.c1 hb, cell_keep h.c2 hb, (hb.frozen (p := ⟨g, 0, none⟩) h.lt).trans h.f0, (hb.frozen (p := ⟨g, 1, none⟩) h.lt).trans h.f1, (hb.frozen (p := ⟨g, 2, none⟩) h.lt).trans h.f2⟩
theorem Bx.same (h : Bx W g a b c) (hb : W'.heap[g]? = W.heap[g]?) : Bx W' g a b c :=
  ⟨(World.cell?_of_block (a := ⟨g, 0, none⟩) hb).trans h.c0, (World.cell?_of_block (a := ⟨g, 1, none⟩) hb).trans h.c1, (World.cell?_of_block (a := ⟨g, 2, none⟩) hb).trans h.c2, (World.frozen?_of_block (a := ⟨g, 0, none⟩) hb).trans h.f0, (World.frozen?_of_block (a := ⟨g, 1, none⟩) hb).trans h.f1, (World.frozen?_of_block (a := ⟨g, 2, none⟩) hb).trans h.f2⟩
theorem Bx.other (h : Bx W g a b c) (p : Addr) (v : Value) (hp : g ≠ p.block) : Bx (W.setCell p v) g a b c := h.same (heap_setCell_other W p g v hp)
theorem Bx.set0 (h : Bx W g a b c) (v : Value) : Bx (W.setCell ⟨g, 0, none⟩ v) g v b c :=
  ⟨set_same _ h.c0, (World.cell?_setCell_other _ _ _ _ (by simp)).trans h.c1, (World.cell?_setCell_other _ _ _ _ (by simp)).trans h.c2, by rw [World.frozen?_setCell]; exact h.f0, by rw [World.frozen?_setCell]; exact h.f1, by rw [World.frozen?_setCell]; exact h.f2⟩
theorem Bx.set1 (h : Bx W g a b c) (v : Value) : Bx (W.setCell ⟨g, 1, none⟩ v) g a v c :=
  ⟨(World.cell?_setCell_other _ _ _ _ (by simp)).trans h.c0, set_same _ h.c1, (World.cell?_setCell_other _ _ _ _ (by simp)).trans h.c2, by rw [World.frozen?_setCell]; exact h.f0, by rw [World.frozen?_setCell]; exact h.f1, by rw [World.frozen?_setCell]; exact h.f2⟩
theorem Bx.set2 (h : Bx W g a b c) (v : Value) : Bx (W.setCell ⟨g, 2, none⟩ v) g a b v :=
  ⟨(World.cell?_setCell_other _ _ _ _ (by simp)).trans h.c0, (World.cell?_setCell_other _ _ _ _ (by simp)).trans h.c1, set_same _ h.c2, by rw [World.frozen?_setCell]; exact h.f0, by rw [World.frozen?_setCell]; exact h.f1, by rw [World.frozen?_setCell]; exact h.f2⟩
theorem Bx.set3 (h : Bx W g a b c) (x y z : Value) : Bx (((W.setCell ⟨g, 0, none⟩ x).setCell ⟨g, 1, none⟩ y).setCell ⟨g, 2, none⟩ z) g x y z := ((h.set0 x).set1 y).set2 z
theorem Bx.new (W : World) (a b c : Value) (t : TypeId) : Bx (W.alloc (.cells #[a, b, c] t)) W.heap.size a b c :=
  ⟨cell_last W _ _ _ _ rfl, cell_last W _ _ _ _ rfl, cell_last W _ _ _ _ rfl, World.frozen?_alloc_at _ _ _ _ rfl, World.frozen?_alloc_at _ _ _ _ rfl, World.frozen?_alloc_at _ _ _ _ rfl⟩
end
theorem Bx.grown {W W' : World} {g k : Nat} {a b c : Value} (h : Bx W g a b c) (hg : W.grownBy W' (some k)) (hne : g ≠ k) : Bx W' g a b c := h.same (hg.block g h.lt (fun e => hne (by injection e)))
theorem lit_news (W : World) (v : Tx) : ∀ j u, (txs [v])[j]? = some u → (W.alloc (.cells #[.int .i64 v.i, .int .i64 v.s, .int .i64 v.e, .bool v.a, .bool v.o] 35)).cell? ((⟨W.heap.size, 0, none⟩ : Addr).add j) = some u := fun j u hu => by
  rw [add_lit, Nat.zero_add, cell_last _ _ _ _ _ rfl, ← hu]
  simp [txs, txC]
theorem own_slice {w : World} {B n k : Nat} {e : TypeId} {v : Value} {xs : List Value} (h : w.ownsRow B e k v n xs) : ∃ A c, v = .slice A n c := by
  rcases h.2 with ⟨rfl, h0⟩ | ⟨g, cap, cur, rfl, _⟩
  · exact ⟨none, 0, by rw [h0]⟩
  · exact ⟨_, _, rfl⟩
theorem own_far {v : Value} {g h k : Nat} (h1 : v.ownBlock = some g ∨ v.ownBlock = some h) (a : k ≠ g) (b : k ≠ h) : v.ownBlock ≠ some k := fun e => by
  rcases h1 with h1 | h1
  · rw [h1] at e; injection e with e; exact a e.symm
  · rw [h1] at e; injection e with e; exact b e.symm
theorem Rd.of_own' {w : World} {B n c : Nat} {e : TypeId} {A : Option Addr} {l : List Tx} (h : w.ownsRow B e 5 (.slice A n c) n (txs l)) (hg : Rng l) : Rd w A n c l := by
  obtain ⟨A', c', e, hr⟩ := Rd.of_own h hg
  injection e with e1 e2 e3
  subst e1 e3
  exact hr
theorem two3 (w : World) (a b c a' b' c' : Value) (t : TypeId) : Bx ((w.alloc (.cells #[a, b, c] t)).alloc (.cells #[a', b', c'] t)) w.heap.size a b c ∧ Bx ((w.alloc (.cells #[a, b, c] t)).alloc (.cells #[a', b', c'] t)) (w.heap.size + 1) a' b' c' ∧ Below w.heap.size w ((w.alloc (.cells #[a, b, c] t)).alloc (.cells #[a', b', c'] t)) := by
  have h := Bx.new (w.alloc (.cells #[a, b, c] t)) a' b' c' t
  rw [World.size_alloc] at h
  exact ⟨(Bx.new w a b c t).below (below1 _ _), h, below2 _ _ _⟩

open Classical in
/-- What Begin answers. -/
noncomputable def begR (s : St) : St × Int × Int := if Ok s then (if s.l.length = 64 ∨ s.n = 1099511627776 then (zS, 0, 51) else (⟨s.l ++ [⟨s.n, s.c, 0, false, false⟩], s.c, s.n + 1⟩, s.n, 0)) else (zS, 0, 9)
/-- A state, a number and an error. -/
def AnsI (R : St × Int × Int) (w : World) (e : Ending) (w' : World) : Prop := ∃ A n c, e = .returned (.tuple #[.agg #[.slice A n c, .int .i64 R.1.c, .int .i64 R.1.n], .int .i64 R.2.1, .int .i64 R.2.2]) ∧ Rd w' A n c R.1.l ∧ Below w.heap.size w w'
theorem AnsI.zero {w w' : World} (E : Int) (hb : Below w.heap.size w w') : AnsI (zS, 0, E) w (.returned (.tuple #[.agg #[.slice none 0 0, .int .i64 0, .int .i64 0], .int .i64 0, .int .i64 E])) w' := ⟨none, 0, 0, rfl, Rd.nothing _, hb⟩
set_option maxRecDepth 100000 in
set_option maxHeartbeats 4000000 in
theorem begin_any (A : Option Addr) (n c : Nat) (s : St) (w : World) (hr : Rd w A n c s.l) :
    Calls Try.prog 8 #[.agg #[.slice A n c, .int .i64 s.c, .int .i64 s.n]] w (AnsI (begR s) w) := by
  obtain ⟨i0, hi, hz0, hz1, hz2⟩ := info_parts Try.infoV
  have hlen := hr.len
  have HCK := Lib.hid fun W (hb : Below w.heap.size w W) => check_any A n c s W (hr.below hb)
  obtain ⟨hx, hy, hb0⟩ := two3 w (.slice A n c) (.int .i64 s.c) (.int .i64 s.n) (.slice none 0 0) (.int .i64 0) (.int .i64 0) 28
  have HX := Lib.hid hx
  have HY := Lib.hid hy
  have HB0 := Lib.hid hb0
  have x0 := hx.c0
  have x1 := hx.c1
  have x2 := hx.c2
  have y0 := hy.c0
  have y1 := hy.c1
  have y2 := hy.c2
  have yf0 := hy.f0
  have yf1 := hy.f1
  have yf2 := hy.f2
  clear hx hy hb0
  by_cases hOk : Ok s
  · rw [chk_ok hOk] at HCK
    by_cases hfull : s.l.length = 64 ∨ s.n = 1099511627776
    · have e : begR s = (zS, 0, 51) := by unfold begR; rw [if_pos hOk, if_pos hfull]
      rw [e]
      clear e
      by_cases h64 : s.l.length = 64
      · have h64' : ((n : Int) == 64) = true := by simp; omega
        clear h64 hfull
        go_enter Try.func8, Try.ntmps8
        go_upto_region 1 with fail
        generalize (w.alloc (.cells #[.slice A n c, .int .i64 s.c, .int .i64 s.n] 28)).alloc (.cells #[.slice none 0 0, .int .i64 0, .int .i64 0] 28) = W0 at *
        go_wp2_with (go_at_call 11; (with_reducible refine (HCK.out _ HB0.out).mono ?_); rintro e w1 ⟨rfl, hb1⟩; have HB1 := Lib.hid (thn HB0.out hb1); have HX1 := Lib.hid (HX.out.below hb1); have u0 := HX1.out.c0; have u1 := HX1.out.c1; have u2 := HX1.out.c2; have HY1 := Lib.hid (HY.out.below hb1); have z0 := HY1.out.c0; have z1 := HY1.out.c1; have z2 := HY1.out.c2; have zf0 := HY1.out.f0; have zf1 := HY1.out.f1; have zf2 := HY1.out.f2; clear hb1)
        obtain ⟨q0, q1, q2, _, _, _⟩ := HY1.out.set3 (.slice none 0 0) (.int .i64 0) (.int .i64 0)
        exact bodyPost_ret (v := .tuple #[.agg #[.slice none 0 0, .int .i64 0, .int .i64 0], .int .i64 0, .int .i64 51]) (by simp [results, Try.results8, go_sem, q0, q1, q2]) rfl (AnsI.zero _ (((HB1.out.setCell (by simp) _).setCell (by simp) _).setCell (by simp) _))
      · have h64' : ((n : Int) == 64) = false := by simp; omega
        have hn : (s.n == 1099511627776) = true := by simpa using hfull.resolve_left h64
        clear h64 hfull
        go_enter Try.func8, Try.ntmps8
        go_upto_region 1 with fail
        generalize (w.alloc (.cells #[.slice A n c, .int .i64 s.c, .int .i64 s.n] 28)).alloc (.cells #[.slice none 0 0, .int .i64 0, .int .i64 0] 28) = W0 at *
        go_wp2_with (go_at_call 11; (with_reducible refine (HCK.out _ HB0.out).mono ?_); rintro e w1 ⟨rfl, hb1⟩; have HB1 := Lib.hid (thn HB0.out hb1); have HX1 := Lib.hid (HX.out.below hb1); have u0 := HX1.out.c0; have u1 := HX1.out.c1; have u2 := HX1.out.c2; have HY1 := Lib.hid (HY.out.below hb1); have z0 := HY1.out.c0; have z1 := HY1.out.c1; have z2 := HY1.out.c2; have zf0 := HY1.out.f0; have zf1 := HY1.out.f1; have zf2 := HY1.out.f2; clear hb1)
        obtain ⟨q0, q1, q2, _, _, _⟩ := HY1.out.set3 (.slice none 0 0) (.int .i64 0) (.int .i64 0)
        exact bodyPost_ret (v := .tuple #[.agg #[.slice none 0 0, .int .i64 0, .int .i64 0], .int .i64 0, .int .i64 51]) (by simp [results, Try.results8, go_sem, q0, q1, q2]) rfl (AnsI.zero _ (((HB1.out.setCell (by simp) _).setCell (by simp) _).setCell (by simp) _))
    · have e : begR s = (⟨s.l ++ [⟨s.n, s.c, 0, false, false⟩], s.c, s.n + 1⟩, s.n, 0) := by unfold begR; rw [if_pos hOk, if_neg hfull]
      rw [e]
      clear e
      have h64' : ((n : Int) == 64) = false := by simp; omega
      have hnn : (s.n == 1099511627776) = false := by simp; omega
      have hok2 := hOk.beg (by have := hOk.len; omega) (by have := hOk.n1; omega)
      have HOK := Lib.hid hok2
      have hn64 := hOk.len
      have hn0 := hOk.n0
      have hn1 := hOk.n1
      have HFR := Lib.hid fun W (hb : Below w.heap.size w W) => fresh_any A n c s W (hr.below hb) (by omega)
      clear hr hOk hfull hok2
      go_enter Try.func8, Try.ntmps8
      go_upto_region 1 with fail
      generalize (w.alloc (.cells #[.slice A n c, .int .i64 s.c, .int .i64 s.n] 28)).alloc (.cells #[.slice none 0 0, .int .i64 0, .int .i64 0] 28) = W0 at *
      go_upto_region 7 with (first | (go_at_call 11; (with_reducible refine (HCK.out _ HB0.out).mono ?_); rintro e w1 ⟨rfl, hb1⟩; have HB1 := Lib.hid (thn HB0.out hb1); have HX1 := Lib.hid (HX.out.below hb1); have u0 := HX1.out.c0; have u1 := HX1.out.c1; have u2 := HX1.out.c2; have HY1 := Lib.hid (HY.out.below hb1); have z0 := HY1.out.c0; have z1 := HY1.out.c1; have z2 := HY1.out.c2; have zf0 := HY1.out.f0; have zf1 := HY1.out.f1; have zf2 := HY1.out.f2; clear hb1) | (go_at_call 17; (with_reducible refine (HFR.out _ HB1.out).mono ?_); rintro e w2 ⟨g, rfl, hown, hg, hgl, hb2⟩; have HB2 := Lib.hid (thn HB1.out hb2); have HX2 := Lib.hid (HX1.out.below hb2); have HY2 := Lib.hid (HY1.out.below hb2); have HO2 := Lib.hid hown; have HG := Lib.hid hg; have HGL := Lib.hid hgl; clear hb2 hown hg hgl))
      have HB3 := Lib.hid (thn HB2.out (below1 w2 (.cells #[.slice (some ⟨g, 0, none⟩) n n, .int .i64 s.c, .int .i64 s.n] 28)))
      have HX3 := Lib.hid (HX2.out.below (below1 w2 (.cells #[.slice (some ⟨g, 0, none⟩) n n, .int .i64 s.c, .int .i64 s.n] 28)))
      have HY3 := Lib.hid (HY2.out.below (below1 w2 (.cells #[.slice (some ⟨g, 0, none⟩) n n, .int .i64 s.c, .int .i64 s.n] 28)))
      have HZ3 := Lib.hid (Bx.new w2 (.slice (some ⟨g, 0, none⟩) n n) (.int .i64 s.c) (.int .i64 s.n) 28)
      rw [hlen] at HO2
      have HO3 := Lib.hid (own_mono (own_below HO2.out (below1 w2 (.cells #[.slice (some ⟨g, 0, none⟩) n n, .int .i64 s.c, .int .i64 s.n] 28))) HB1.out.size)
      have hlx := HX1.out.lt
      have hly := HY1.out.lt
      have hlg := HG.out
      have hll := HGL.out
      have HN1 := Lib.hid (show w.heap.size + 1 < g by omega)
      have HN2 := Lib.hid (show g < w2.heap.size from hll)
      clear HX1 HX2 HY1 HY2 HG HGL HB1 HB2 HO2 u0 u1 u2 z0 z1 z2 zf0 zf1 zf2 x0 x1 x2 y0 y1 y2 yf0 yf1 yf2 HX HY HB0 hlx hly hlg hll
      generalize w2.alloc (.cells #[.slice (some ⟨g, 0, none⟩) n n, .int .i64 s.c, .int .i64 s.n] 28) = W3 at *
      generalize w2.heap.size = gn at *
      have x1 := HX3.out.c1
      have x2 := HX3.out.c2
      have z0 := HZ3.out.c0
      have HX4 := Lib.hid (HX3.out.below (below1 W3 (.cells #[.int .i64 s.n, .int .i64 s.c, .int .i64 0, .bool false, .bool false] 35)))
      have HY4 := Lib.hid (HY3.out.below (below1 W3 (.cells #[.int .i64 s.n, .int .i64 s.c, .int .i64 0, .bool false, .bool false] 35)))
      have HZ4 := Lib.hid (HZ3.out.below (below1 W3 (.cells #[.int .i64 s.n, .int .i64 s.c, .int .i64 0, .bool false, .bool false] 35)))
      have HO4 := Lib.hid (own_below HO3.out (below1 W3 (.cells #[.int .i64 s.n, .int .i64 s.c, .int .i64 0, .bool false, .bool false] 35)))
      have HB4 := Lib.hid (thn HB3.out (below1 W3 (.cells #[.int .i64 s.n, .int .i64 s.c, .int .i64 0, .bool false, .bool false] 35)))
      go_upto_region 8 with (at_builtin; refine wpList_append_own_at _ rfl _ _ 26 rfl w.heap.size 35 i0 (.agg #[.int .i64 0, .int .i64 0, .int .i64 0, .bool false, .bool false]) 5 32 Try.underlying26 hi hz0 hz1 hz2 rfl (by decide) _ n _ rfl HO4.out ⟨W3.heap.size, 0, none⟩ 1 1 (txs [⟨s.n, s.c, 0, false, false⟩]) rfl rfl (lit_news W3 ⟨s.n, s.c, 0, false, false⟩) (txs_one _) (by unfold maxLen; omega) (by omega) HB4.out.size ?_; intro v5 w5 hown5 hg5 _ hn5; obtain ⟨A5, c5, rfl⟩ := own_slice hown5; have HX5 := Lib.hid (HX4.out.grown (k := g) hg5 (by have := HN1.out; omega)); have HY5 := Lib.hid (HY4.out.grown (k := g) hg5 (by have := HN1.out; omega)); have HZ5 := Lib.hid (HZ4.out.grown (k := g) hg5 (by have := HN2.out; omega)); have HO5 := Lib.hid hown5; have HB5 := Lib.hid (HB4.out.grown hg5 HB4.out.size (fun k hk => (HO4.out.lt k hk).1)); have HNY := Lib.hid (own_far (g := g) (k := w.heap.size + 1) hn5 (by have := HN1.out; omega) (by rw [World.size_alloc]; have := HY3.out.lt; omega)); have HNZ := Lib.hid (own_far (g := g) (k := gn) hn5 (by have := HN2.out; omega) (by rw [World.size_alloc]; have := HZ3.out.lt; omega)); clear hown5 hg5 hn5; have z0 := HZ5.out.c0; have zf0 := HZ5.out.f0)
      have HX6 := Lib.hid (HX5.out.other ⟨gn, 0, none⟩ (.slice A5 (n + 1) c5) (by simp; have := HN1.out; have := HN2.out; omega))
      have HY6 := Lib.hid (HY5.out.other ⟨gn, 0, none⟩ (.slice A5 (n + 1) c5) (by simp; have := HN1.out; have := HN2.out; omega))
      have HZ6 := Lib.hid (HZ5.out.set0 (.slice A5 (n + 1) c5))
      have HO6 := Lib.hid (own_other HO5.out ⟨gn, 0, none⟩ (.slice A5 (n + 1) c5) HNZ.out)
      have HB6 := Lib.hid (HB5.out.setCell (p := ⟨gn, 0, none⟩) (by have := HN1.out; have := HN2.out; simp; omega) (.slice A5 (n + 1) c5))
      clear HX5 HY5 HZ5 HO5 HB5 HX4 HY4 HZ4 HO4 HB4 HX3 HY3 HZ3 HO3 HB3 x1 x2 z0 zf0
      generalize w5.setCell ⟨gn, 0, none⟩ (.slice A5 (n + 1) c5) = W6 at *
      have z2 := HZ6.out.c2
      have zf2 := HZ6.out.f2
      go_upto_region 9 with fail
      have HX7 := Lib.hid (HX6.out.other ⟨gn, 2, none⟩ (.int .i64 (s.n + 1)) (by simp; have := HN1.out; have := HN2.out; omega))
      have HY7 := Lib.hid (HY6.out.other ⟨gn, 2, none⟩ (.int .i64 (s.n + 1)) (by simp; have := HN1.out; have := HN2.out; omega))
      have HZ7 := Lib.hid (HZ6.out.set2 (.int .i64 (s.n + 1)))
      have HO7 := Lib.hid (own_other HO6.out ⟨gn, 2, none⟩ (.int .i64 (s.n + 1)) HNZ.out)
      have HB7 := Lib.hid (HB6.out.setCell (p := ⟨gn, 2, none⟩) (by have := HN1.out; have := HN2.out; simp; omega) (.int .i64 (s.n + 1)))
      clear HX6 HY6 HZ6 HO6 HB6 z2 zf2
      generalize W6.setCell ⟨gn, 2, none⟩ (.int .i64 (s.n + 1)) = W7 at *
      obtain ⟨z0, z1, z2, _, _, _⟩ := HZ7.out
      obtain ⟨y0, y1, y2, yf0, yf1, yf2⟩ := HY7.out
      have x2 := HX7.out.c2
      go_region
      have HO8 := Lib.hid (own_other (own_other (own_other HO7.out ⟨w.heap.size + 1, 0, none⟩ (.slice A5 (n + 1) c5) HNY.out) ⟨w.heap.size + 1, 1, none⟩ (.int .i64 s.c) HNY.out) ⟨w.heap.size + 1, 2, none⟩ (.int .i64 (s.n + 1)) HNY.out)
      rw [← txs_app] at HO8
      have HR8 := Lib.hid (Rd.of_own' HO8.out.drew HOK.out.rng)
      obtain ⟨q0, q1, q2, _, _, _⟩ := HY7.out.set3 (.slice A5 (n + 1) c5) (.int .i64 s.c) (.int .i64 (s.n + 1))
      have HB8 := Lib.hid (((HB7.out.setCell (p := ⟨w.heap.size + 1, 0, none⟩) (by simp) (.slice A5 (n + 1) c5)).setCell (p := ⟨w.heap.size + 1, 1, none⟩) (by simp) (.int .i64 s.c)).setCell (p := ⟨w.heap.size + 1, 2, none⟩) (by simp) (.int .i64 (s.n + 1))).drew
      go_wp2_with fail
      generalize ((W7.setCell ⟨w.heap.size + 1, 0, none⟩ (.slice A5 (n + 1) c5)).setCell ⟨w.heap.size + 1, 1, none⟩ (.int .i64 s.c)).setCell ⟨w.heap.size + 1, 2, none⟩ (.int .i64 (s.n + 1)) = W8 at *
      have p0 : W8.drew.cell? ⟨w.heap.size + 1, 0, none⟩ = some (.slice A5 (n + 1) c5) := q0
      have p1 : W8.drew.cell? ⟨w.heap.size + 1, 1, none⟩ = some (.int .i64 s.c) := q1
      have p2 : W8.drew.cell? ⟨w.heap.size + 1, 2, none⟩ = some (.int .i64 (s.n + 1)) := q2
      exact bodyPost_ret (v := .tuple #[.agg #[.slice A5 (n + 1) c5, .int .i64 s.c, .int .i64 (s.n + 1)], .int .i64 s.n, .int .i64 0]) (by simp [results, Try.results8, go_sem, p0, p1, p2]) rfl ⟨A5, n + 1, c5, rfl, HR8.out, HB8.out⟩
  · rw [chk_bad hOk] at HCK
    have e : begR s = (zS, 0, 9) := if_neg hOk
    rw [e]
    clear e
    go_enter Try.func8, Try.ntmps8
    go_upto_region 1 with fail
    generalize (w.alloc (.cells #[.slice A n c, .int .i64 s.c, .int .i64 s.n] 28)).alloc (.cells #[.slice none 0 0, .int .i64 0, .int .i64 0] 28) = W0 at *
    go_wp2_with (go_at_call 11; (with_reducible refine (HCK.out _ HB0.out).mono ?_); rintro e w1 ⟨rfl, hb1⟩; have HB1 := Lib.hid (thn HB0.out hb1); have HX1 := Lib.hid (HX.out.below hb1); have u0 := HX1.out.c0; have u1 := HX1.out.c1; have u2 := HX1.out.c2; have HY1 := Lib.hid (HY.out.below hb1); have z0 := HY1.out.c0; have z1 := HY1.out.c1; have z2 := HY1.out.c2; have zf0 := HY1.out.f0; have zf1 := HY1.out.f1; have zf2 := HY1.out.f2; clear hb1)
    obtain ⟨q0, q1, q2, _, _, _⟩ := HY1.out.set3 (.slice none 0 0) (.int .i64 0) (.int .i64 0)
    exact bodyPost_ret (v := .tuple #[.agg #[.slice none 0 0, .int .i64 0, .int .i64 0], .int .i64 0, .int .i64 9]) (by simp [results, Try.results8, go_sem, q0, q1, q2]) rfl (AnsI.zero _ (((HB1.out.setCell (by simp) _).setCell (by simp) _).setCell (by simp) _))
end Go.Proofs.Ytlcmpngjmmbkcaa
