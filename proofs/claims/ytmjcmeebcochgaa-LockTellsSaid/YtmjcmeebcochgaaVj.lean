/- Add of package lock over any state, any lock: the walk. Conditions: a state that is read in memory. -/
import Derived.Test.YtmjcmeebcochgaaVi
namespace Go.Proofs.Ytmjcmeebcochgaa
open Go.RowKit Go.Sort Go.Maps
set_option linter.unusedSimpArgs false
set_option linter.unusedVariables false

/-- A state and an error. -/
def PairS (l : List Lk) (E : Int) (w : World) (e : Ending) (w' : World) : Prop := ∃ A n c, e = .returned (.tuple #[.agg #[.slice A n c], .int .i64 E]) ∧ Rd w' A n c l ∧ Below w.heap.size w w'
theorem PairS.nil {E : Int} {w w' : World} (h : Below w.heap.size w w') : PairS [] E w (.returned (.tuple #[.agg #[.slice none 0 0], .int .i64 E])) w' := ⟨none, 0, 0, rfl, Rd.nothing _, h⟩
/-- What a call of Add has laid: the state, the lock, the answer. -/
structure Frm (w W : World) (gs gx gr : Nat) (A : Option Addr) (n c : Nat) (x : Lk) : Prop where
  s : W.cell? ⟨gs, 0, none⟩ = some (.slice A n c)
  x : Cell3 W ⟨gx, 0, none⟩ x
  r : W.cell? ⟨gr, 0, none⟩ = some (.slice none 0 0)
  f : W.frozen? ⟨gr, 0, none⟩ = false
  b : Below w.heap.size w W
  g : w.heap.size ≤ gr
theorem Frm.below {w W W' : World} {gs gx gr : Nat} {A : Option Addr} {n c : Nat} {x : Lk} (h : Frm w W gs gx gr A n c x) (hb : Below W.heap.size W W') : Frm w W' gs gx gr A n c x :=
  ⟨cell_keep h.s hb, h.x.below hb, cell_keep h.r hb, (hb.frozen (p := ⟨gr, 0, none⟩) (cell_lt h.r)).trans h.f, thn h.b hb, h.g⟩
theorem Frm.new (w : World) (A : Option Addr) (n c : Nat) (x : Lk) : Frm w (((w.alloc (.cells #[.slice A n c] 29)).alloc (.cells #[.int .i64 x.t, .string x.lo.s, .string x.hi.s] 34)).alloc (.cells #[.slice none 0 0] 29)) w.heap.size (w.heap.size + 1) (w.heap.size + 2) A n c x := by
  have b1 := below1 w (.cells #[.slice A n c] 29)
  have b2 := below1 (w.alloc (.cells #[.slice A n c] 29)) (.cells #[.int .i64 x.t, .string x.lo.s, .string x.hi.s] 34)
  have b3 := below1 ((w.alloc (.cells #[.slice A n c] 29)).alloc (.cells #[.int .i64 x.t, .string x.lo.s, .string x.hi.s] 34)) (.cells #[.slice none 0 0] 29)
  have e1 : (w.alloc (.cells #[.slice A n c] 29)).heap.size = w.heap.size + 1 := by simp
  have e2 : ((w.alloc (.cells #[.slice A n c] 29)).alloc (.cells #[.int .i64 x.t, .string x.lo.s, .string x.hi.s] 34)).heap.size = w.heap.size + 2 := by simp
  refine ⟨cell_keep (cell_keep (cell_last w _ _ _ 0 rfl) b2) b3, ?_, cell_last _ _ _ _ 0 e2.symm, World.frozen?_alloc_at _ _ _ 0 e2.symm, thn (thn b1 b2) b3, by omega⟩
  have h := (Box.new (w.alloc (.cells #[.slice A n c] 29)) x).cells
  rw [e1] at h
  exact h.below b3
/-- Zeros for an answer. -/
theorem Frm.none_ {w W : World} {gs gx gr : Nat} {A : Option Addr} {n c : Nat} {x : Lk} {E : Int} (h : Frm w W gs gx gr A n c x) : PairS [] E w (.returned (.tuple #[.agg #[.slice none 0 0], .int .i64 E])) (W.setCell ⟨gr, 0, none⟩ (.slice none 0 0)) :=
  PairS.nil (h.b.setCell (p := ⟨gr, 0, none⟩) h.g _)
/-- A fresh list for an answer. -/
theorem Frm.some_ {w W W' : World} {gs gx gr g : Nat} {A : Option Addr} {n c : Nat} {x : Lk} {l : List Lk} (h : Frm w W gs gx gr A n c x) (hr : Row W' g l) (hg : W.heap.size ≤ g) (hb : Below W.heap.size W W') (hl : l.length ≤ 1000000) : PairS l 0 w (.returned (.tuple #[.agg #[.slice (some ⟨g, 0, none⟩) l.length l.length], .int .i64 0])) (W'.setCell ⟨gr, 0, none⟩ (.slice (some ⟨g, 0, none⟩) l.length l.length)) :=
  ⟨_, _, _, rfl, (hr.other _ _ (by have := cell_lt h.r; simp at this ⊢; omega)).rd rfl (by omega), (thn h.b hb).setCell (p := ⟨gr, 0, none⟩) h.g _⟩
set_option maxRecDepth 100000 in
set_option maxHeartbeats 8000000 in
theorem add_bad (A : Option Addr) (n c : Nat) (l : List Lk) (x : Lk) (w : World) (hr : Rd w A n c l) (h : ¬ Ok l) :
    Calls Try.prog 10 #[.agg #[.slice A n c], .agg #[.int .i64 x.t, .string x.lo.s, .string x.hi.s]] w (PairS [] 9 w) := by
  have HF0 := Lib.hid (Frm.new w A n c x)
  have HC := Lib.hid fun W (hb : Below w.heap.size w W) => check_any A n c l W (hr.below hb)
  rw [chk_bad h] at HC
  clear hr h
  go_enter Try.func10, Try.ntmps10
  go_upto_region 1 with fail
  generalize ((w.alloc (.cells #[.slice A n c] 29)).alloc (.cells #[.int .i64 x.t, .string x.lo.s, .string x.hi.s] 34)).alloc (.cells #[.slice none 0 0] 29) = W0 at *
  generalize w.heap.size + 2 = gr at *
  generalize w.heap.size + 1 = gx at *
  have hs := HF0.out.s
  go_upto_region 3 with (go_at_call 22; (with_reducible refine (HC.out _ HF0.out.b).mono ?_); rintro e w1 ⟨rfl, hb⟩; have HF1 := Lib.hid (HF0.out.below hb); clear hb)
  have hr1 := HF1.out.r
  have hf1 := HF1.out.f
  have r0 := set_same (.slice none 0 0) hr1
  go_wp2
  exact bodyPost_ret (v := .tuple #[.agg #[.slice none 0 0], .int .i64 9]) (by simp [results, Try.results10, go_sem, r0]) rfl HF1.out.none_
set_option maxRecDepth 100000 in
set_option maxHeartbeats 8000000 in
theorem add_arg (A : Option Addr) (n c : Nat) (l : List Lk) (x : Lk) (w : World) (hr : Rd w A n c l) (h : Ok l) (hx : mayL x = false) :
    Calls Try.prog 10 #[.agg #[.slice A n c], .agg #[.int .i64 x.t, .string x.lo.s, .string x.hi.s]] w (PairS [] 1 w) := by
  have HF0 := Lib.hid (Frm.new w A n c x)
  have HC := Lib.hid fun W (hb : Below w.heap.size w W) => check_any A n c l W (hr.below hb)
  rw [chk_good h] at HC
  have HM := Lib.hid fun W => mayBe_any x W
  rw [hx] at HM
  clear hr h hx
  go_enter Try.func10, Try.ntmps10
  go_upto_region 1 with fail
  generalize ((w.alloc (.cells #[.slice A n c] 29)).alloc (.cells #[.int .i64 x.t, .string x.lo.s, .string x.hi.s] 34)).alloc (.cells #[.slice none 0 0] 29) = W0 at *
  generalize w.heap.size + 2 = gr at *
  generalize w.heap.size + 1 = gx at *
  have hs := HF0.out.s
  go_upto_region 4 with (go_at_call 22; (with_reducible refine (HC.out _ HF0.out.b).mono ?_); rintro e w1 ⟨rfl, hb⟩; have HF1 := Lib.hid (HF0.out.below hb); clear hb)
  clear hs HF0 HC
  have hx0 := HF1.out.x.1
  have hx1 : w1.cell? ⟨gx, 1, none⟩ = some (.string x.lo.s) := by simpa using HF1.out.x.2.1
  have hx2 : w1.cell? ⟨gx, 2, none⟩ = some (.string x.hi.s) := by simpa using HF1.out.x.2.2
  go_upto_region 5 with (go_at_call 26; (with_reducible refine (HM.out _).mono ?_); rintro e w2 ⟨rfl, hb⟩; have HF2 := Lib.hid (HF1.out.below hb); clear hb)
  have hr1 := HF2.out.r
  have hf1 := HF2.out.f
  have r0 := set_same (.slice none 0 0) hr1
  go_wp2
  exact bodyPost_ret (v := .tuple #[.agg #[.slice none 0 0], .int .i64 1]) (by simp [results, Try.results10, go_sem, r0]) rfl HF2.out.none_
set_option maxRecDepth 100000 in
set_option maxHeartbeats 8000000 in
theorem add_wit (A : Option Addr) (n c : Nat) (l : List Lk) (x : Lk) (w : World) (hr : Rd w A n c l) (h : Ok l) (hx : mayL x = true) (hw : l.any (witB x) = true) :
    Calls Try.prog 10 #[.agg #[.slice A n c], .agg #[.int .i64 x.t, .string x.lo.s, .string x.hi.s]] w (PairS l 0 w) := by
  have HF0 := Lib.hid (Frm.new w A n c x)
  have HC := Lib.hid fun W (hb : Below w.heap.size w W) => check_any A n c l W (hr.below hb)
  rw [chk_good h] at HC
  have HM := Lib.hid fun W => mayBe_any x W
  rw [hx] at HM
  have HW := Lib.hid fun W (hb : Below w.heap.size w W) => contains_wit x A n c l W (hr.below hb)
  rw [hw] at HW
  have HFR := Lib.hid fun W (hb : Below w.heap.size w W) => fresh_any A n c l W (hr.below hb) (by have := h.1; have := hr.len; omega)
  have HLE := Lib.hid (show l.length ≤ 1000000 by have := h.1; omega)
  have hln := hr.len
  have HLN := Lib.hid hln
  clear hr h hx hw hln
  go_enter Try.func10, Try.ntmps10
  go_upto_region 1 with fail
  generalize ((w.alloc (.cells #[.slice A n c] 29)).alloc (.cells #[.int .i64 x.t, .string x.lo.s, .string x.hi.s] 34)).alloc (.cells #[.slice none 0 0] 29) = W0 at *
  generalize w.heap.size + 2 = gr at *
  generalize w.heap.size + 1 = gx at *
  have hs := HF0.out.s
  go_upto_region 4 with (go_at_call 22; (with_reducible refine (HC.out _ HF0.out.b).mono ?_); rintro e w1 ⟨rfl, hb⟩; have HF1 := Lib.hid (HF0.out.below hb); clear hb)
  clear hs HF0 HC
  have hx0 := HF1.out.x.1
  have hx1 : w1.cell? ⟨gx, 1, none⟩ = some (.string x.lo.s) := by simpa using HF1.out.x.2.1
  have hx2 : w1.cell? ⟨gx, 2, none⟩ = some (.string x.hi.s) := by simpa using HF1.out.x.2.2
  go_upto_region 6 with (go_at_call 26; (with_reducible refine (HM.out _).mono ?_); rintro e w2 ⟨rfl, hb⟩; have HF2 := Lib.hid (HF1.out.below hb); clear hb)
  clear hx0 hx1 hx2 HF1 HM
  have hx0 := HF2.out.x.1
  have hx1 : w2.cell? ⟨gx, 1, none⟩ = some (.string x.lo.s) := by simpa using HF2.out.x.2.1
  have hx2 : w2.cell? ⟨gx, 2, none⟩ = some (.string x.hi.s) := by simpa using HF2.out.x.2.2
  have hs2 := HF2.out.s
  go_upto_region 7 with (go_at_call 27; (with_reducible refine (HW.out _ HF2.out.b).mono ?_); rintro e w3 ⟨rfl, hb⟩; have HF3 := Lib.hid (HF2.out.below hb); clear hb)
  clear hx0 hx1 hx2 hs2 HF2 HW
  have hs3 := HF3.out.s
  go_wp2_with (go_at_call 29; (with_reducible refine (HFR.out _ HF3.out.b).mono ?_); rintro e w4 ⟨g, rfl, hrw, hg, hgl, hb⟩; have HF4 := Lib.hid (HF3.out.below hb); have HR4 := Lib.hid (HF3.out.some_ hrw hg hb HLE.out); have hr4 := HF4.out.r; have hf4 := HF4.out.f; have r0 := set_same (.slice (some ⟨g, 0, none⟩) l.length l.length) hr4; clear hrw hg hb)
  exact bodyPost_ret (v := .tuple #[.agg #[.slice (some ⟨g, 0, none⟩) l.length l.length], .int .i64 0]) (by simp [results, Try.results10, go_sem, r0]) rfl HR4.out
theorem asone_use {x : Lk} {A : Option Addr} {n c : Nat} {l m : List Lk} {w : World} (hr : Rd w A n c l) (h : Ok l) (hm : asOne l x (touB x) = m) {q : Addr} {W : World} (hb : Below w.heap.size w W) (hc : Cell3 W q x) :
    Calls Try.prog 30 #[.slice A n c, .agg #[.int .i64 x.t, .string x.lo.s, .string x.hi.s], .func (.func 49) #[] #[.pointer (some q)]] W (OneX m W) := by
  rw [← hm]
  exact asOne_tou x x q A n c l W (hr.below hb) (by have := h.1; have := hr.len; omega) h.2.2 hc
set_option maxRecDepth 100000 in
set_option maxHeartbeats 8000000 in
theorem add_one (A : Option Addr) (n c : Nat) (l : List Lk) (x : Lk) (w : World) (hr : Rd w A n c l) (h : Ok l) (hx : mayL x = true) (hw : l.any (witB x) = false) (hl : (asOne l x (touB x)).length ≤ 512) :
    Calls Try.prog 10 #[.agg #[.slice A n c], .agg #[.int .i64 x.t, .string x.lo.s, .string x.hi.s]] w (PairS (asOne l x (touB x)) 0 w) := by
  have HF0 := Lib.hid (Frm.new w A n c x)
  have HC := Lib.hid fun W (hb : Below w.heap.size w W) => check_any A n c l W (hr.below hb)
  rw [chk_good h] at HC
  have HM := Lib.hid fun W => mayBe_any x W
  rw [hx] at HM
  have HW := Lib.hid fun W (hb : Below w.heap.size w W) => contains_wit x A n c l W (hr.below hb)
  rw [hw] at HW
  have HT := Lib.hid fun W => touching_any x W
  obtain ⟨m, hm⟩ : ∃ m, asOne l x (touB x) = m := ⟨_, rfl⟩
  have HA := Lib.hid fun q W (hb : Below w.heap.size w W) (hc : Cell3 W q x) => asone_use hr h hm hb hc
  rw [hm] at hl ⊢
  have HLE := Lib.hid (show m.length ≤ 1000000 by omega)
  clear hr h hx hw hm
  go_enter Try.func10, Try.ntmps10
  go_upto_region 1 with fail
  generalize ((w.alloc (.cells #[.slice A n c] 29)).alloc (.cells #[.int .i64 x.t, .string x.lo.s, .string x.hi.s] 34)).alloc (.cells #[.slice none 0 0] 29) = W0 at *
  generalize w.heap.size + 2 = gr at *
  generalize w.heap.size + 1 = gx at *
  have hs := HF0.out.s
  go_upto_region 4 with (go_at_call 22; (with_reducible refine (HC.out _ HF0.out.b).mono ?_); rintro e w1 ⟨rfl, hb⟩; have HF1 := Lib.hid (HF0.out.below hb); clear hb)
  clear hs HF0 HC
  have hx0 := HF1.out.x.1
  have hx1 : w1.cell? ⟨gx, 1, none⟩ = some (.string x.lo.s) := by simpa using HF1.out.x.2.1
  have hx2 : w1.cell? ⟨gx, 2, none⟩ = some (.string x.hi.s) := by simpa using HF1.out.x.2.2
  go_upto_region 6 with (go_at_call 26; (with_reducible refine (HM.out _).mono ?_); rintro e w2 ⟨rfl, hb⟩; have HF2 := Lib.hid (HF1.out.below hb); clear hb)
  clear hx0 hx1 hx2 HF1 HM
  have hx0 := HF2.out.x.1
  have hx1 : w2.cell? ⟨gx, 1, none⟩ = some (.string x.lo.s) := by simpa using HF2.out.x.2.1
  have hx2 : w2.cell? ⟨gx, 2, none⟩ = some (.string x.hi.s) := by simpa using HF2.out.x.2.2
  have hs2 := HF2.out.s
  go_upto_region 8 with (go_at_call 27; (with_reducible refine (HW.out _ HF2.out.b).mono ?_); rintro e w3 ⟨rfl, hb⟩; have HF3 := Lib.hid (HF2.out.below hb); clear hb)
  clear hx0 hx1 hx2 hs2 HF2 HW
  have hx0 := HF3.out.x.1
  have hx1 : w3.cell? ⟨gx, 1, none⟩ = some (.string x.lo.s) := by simpa using HF3.out.x.2.1
  have hx2 : w3.cell? ⟨gx, 2, none⟩ = some (.string x.hi.s) := by simpa using HF3.out.x.2.2
  have hs3 := HF3.out.s
  have HSO := Lib.hid fun W' (hb : Below w3.heap.size w3 W') => (show Below w3.heap.size w3 W' ∧ W'.cell? ⟨w.heap.size, 0, none⟩ = some (.slice A n c) ∧ W'.cell? ⟨gx, 0, none⟩ = some (.int .i64 x.t) ∧ W'.cell? ⟨gx, 1, none⟩ = some (.string x.lo.s) ∧ W'.cell? ⟨gx, 2, none⟩ = some (.string x.hi.s) from ⟨hb, cell_keep hs3 hb, cell_keep hx0 hb, cell_keep hx1 hb, cell_keep hx2 hb⟩)
  have hbW := (Below.refl w3.heap.size w3).drew
  clear hx0 hx1 hx2 hs3
  go_region_held3 (fun W' => Below w3.heap.size w3 W' ∧ W'.cell? ⟨w.heap.size, 0, none⟩ = some (.slice A n c) ∧ W'.cell? ⟨gx, 0, none⟩ = some (.int .i64 x.t) ∧ W'.cell? ⟨gx, 1, none⟩ = some (.string x.lo.s) ∧ W'.cell? ⟨gx, 2, none⟩ = some (.string x.hi.s))
    (first | exact HSO.out _ hbW | exact HSO.out _ hq2 | (obtain ⟨s0, _⟩ := ‹Below w3.heap.size w3 _ ∧ _›; exact HSO.out _ (s0.alloc s0.size _)))
    (first | (go_at_call 31; (with_reducible refine (HT.out _).mono ?_); rintro e w5 ⟨rfl, rfl⟩) | (go_at_call 30; refine (HA.out _ _ (thn HF3.out.b (And.left ‹Below w3.heap.size w3 _ ∧ _›)) ⟨cell_last _ _ _ _ _ (by simp), cell_last _ _ _ _ _ (by simp), cell_last _ _ _ _ _ (by simp)⟩).mono ?_; rintro e w6 ⟨v6, rfl, ho6, hb6⟩; have hq2 : Below w3.heap.size w3 w6 := thn (And.left ‹Below w3.heap.size w3 _ ∧ _›) hb6; clear hb6))
  obtain ⟨A6, c6, rfl, hr6⟩ := Rd.of_own ho6
  have HF6 := Lib.hid (HF3.out.below hq2)
  have HR6 := Lib.hid hr6
  have hc6 := hr6.cap
  have hle6 := hr6.le
  clear ho6 hr6 hq2 hbW HSO HF3
  have hr1 := HF6.out.r
  have hf1 := HF6.out.f
  go_wp2_with (go_at_call 29; (with_reducible refine (fresh_any A6 m.length c6 m _ HR6.out HLE.out).mono ?_); rintro e w7 ⟨g, rfl, hrw, hg, hgl, hb⟩; have HF7 := Lib.hid (HF6.out.below hb); have HR7 := Lib.hid (HF6.out.some_ hrw hg hb HLE.out); have hr4 := HF7.out.r; have hf4 := HF7.out.f; have r0 := set_same (.slice (some ⟨g, 0, none⟩) m.length m.length) hr4; clear hrw hg hb)
  exact bodyPost_ret (v := .tuple #[.agg #[.slice (some ⟨g, 0, none⟩) m.length m.length], .int .i64 0]) (by simp [results, Try.results10, go_sem, r0]) rfl HR7.out
set_option maxRecDepth 100000 in
set_option maxHeartbeats 8000000 in
theorem add_full (A : Option Addr) (n c : Nat) (l : List Lk) (x : Lk) (w : World) (hr : Rd w A n c l) (h : Ok l) (hx : mayL x = true) (hw : l.any (witB x) = false) (hl : 512 < (asOne l x (touB x)).length) :
    Calls Try.prog 10 #[.agg #[.slice A n c], .agg #[.int .i64 x.t, .string x.lo.s, .string x.hi.s]] w (PairS [] 51 w) := by
  have HF0 := Lib.hid (Frm.new w A n c x)
  have HC := Lib.hid fun W (hb : Below w.heap.size w W) => check_any A n c l W (hr.below hb)
  rw [chk_good h] at HC
  have HM := Lib.hid fun W => mayBe_any x W
  rw [hx] at HM
  have HW := Lib.hid fun W (hb : Below w.heap.size w W) => contains_wit x A n c l W (hr.below hb)
  rw [hw] at HW
  have HT := Lib.hid fun W => touching_any x W
  obtain ⟨m, hm⟩ : ∃ m, asOne l x (touB x) = m := ⟨_, rfl⟩
  have HA := Lib.hid fun q W (hb : Below w.heap.size w W) (hc : Cell3 W q x) => asone_use hr h hm hb hc
  rw [hm] at hl
  clear hr h hx hw hm
  go_enter Try.func10, Try.ntmps10
  go_upto_region 1 with fail
  generalize ((w.alloc (.cells #[.slice A n c] 29)).alloc (.cells #[.int .i64 x.t, .string x.lo.s, .string x.hi.s] 34)).alloc (.cells #[.slice none 0 0] 29) = W0 at *
  generalize w.heap.size + 2 = gr at *
  generalize w.heap.size + 1 = gx at *
  have hs := HF0.out.s
  go_upto_region 4 with (go_at_call 22; (with_reducible refine (HC.out _ HF0.out.b).mono ?_); rintro e w1 ⟨rfl, hb⟩; have HF1 := Lib.hid (HF0.out.below hb); clear hb)
  clear hs HF0 HC
  have hx0 := HF1.out.x.1
  have hx1 : w1.cell? ⟨gx, 1, none⟩ = some (.string x.lo.s) := by simpa using HF1.out.x.2.1
  have hx2 : w1.cell? ⟨gx, 2, none⟩ = some (.string x.hi.s) := by simpa using HF1.out.x.2.2
  go_upto_region 6 with (go_at_call 26; (with_reducible refine (HM.out _).mono ?_); rintro e w2 ⟨rfl, hb⟩; have HF2 := Lib.hid (HF1.out.below hb); clear hb)
  clear hx0 hx1 hx2 HF1 HM
  have hx0 := HF2.out.x.1
  have hx1 : w2.cell? ⟨gx, 1, none⟩ = some (.string x.lo.s) := by simpa using HF2.out.x.2.1
  have hx2 : w2.cell? ⟨gx, 2, none⟩ = some (.string x.hi.s) := by simpa using HF2.out.x.2.2
  have hs2 := HF2.out.s
  go_upto_region 8 with (go_at_call 27; (with_reducible refine (HW.out _ HF2.out.b).mono ?_); rintro e w3 ⟨rfl, hb⟩; have HF3 := Lib.hid (HF2.out.below hb); clear hb)
  clear hx0 hx1 hx2 hs2 HF2 HW
  have hx0 := HF3.out.x.1
  have hx1 : w3.cell? ⟨gx, 1, none⟩ = some (.string x.lo.s) := by simpa using HF3.out.x.2.1
  have hx2 : w3.cell? ⟨gx, 2, none⟩ = some (.string x.hi.s) := by simpa using HF3.out.x.2.2
  have hs3 := HF3.out.s
  have HSO := Lib.hid fun W' (hb : Below w3.heap.size w3 W') => (show Below w3.heap.size w3 W' ∧ W'.cell? ⟨w.heap.size, 0, none⟩ = some (.slice A n c) ∧ W'.cell? ⟨gx, 0, none⟩ = some (.int .i64 x.t) ∧ W'.cell? ⟨gx, 1, none⟩ = some (.string x.lo.s) ∧ W'.cell? ⟨gx, 2, none⟩ = some (.string x.hi.s) from ⟨hb, cell_keep hs3 hb, cell_keep hx0 hb, cell_keep hx1 hb, cell_keep hx2 hb⟩)
  have hbW := (Below.refl w3.heap.size w3).drew
  clear hx0 hx1 hx2 hs3
  go_region_held3 (fun W' => Below w3.heap.size w3 W' ∧ W'.cell? ⟨w.heap.size, 0, none⟩ = some (.slice A n c) ∧ W'.cell? ⟨gx, 0, none⟩ = some (.int .i64 x.t) ∧ W'.cell? ⟨gx, 1, none⟩ = some (.string x.lo.s) ∧ W'.cell? ⟨gx, 2, none⟩ = some (.string x.hi.s))
    (first | exact HSO.out _ hbW | exact HSO.out _ hq2 | (obtain ⟨s0, _⟩ := ‹Below w3.heap.size w3 _ ∧ _›; exact HSO.out _ (s0.alloc s0.size _)))
    (first | (go_at_call 31; (with_reducible refine (HT.out _).mono ?_); rintro e w5 ⟨rfl, rfl⟩) | (go_at_call 30; refine (HA.out _ _ (thn HF3.out.b (And.left ‹Below w3.heap.size w3 _ ∧ _›)) ⟨cell_last _ _ _ _ _ (by simp), cell_last _ _ _ _ _ (by simp), cell_last _ _ _ _ _ (by simp)⟩).mono ?_; rintro e w6 ⟨v6, rfl, ho6, hb6⟩; have hq2 : Below w3.heap.size w3 w6 := thn (And.left ‹Below w3.heap.size w3 _ ∧ _›) hb6; clear hb6))
  obtain ⟨A6, c6, rfl, hr6⟩ := Rd.of_own ho6
  have HF6 := Lib.hid (HF3.out.below hq2)
  have HR6 := Lib.hid hr6
  have hc6 := hr6.cap
  have hle6 := hr6.le
  clear ho6 hr6 hq2 hbW HSO HF3
  have hr1 := HF6.out.r
  have hf1 := HF6.out.f
  have r0 := set_same (.slice none 0 0) hr1
  go_wp2
  exact bodyPost_ret (v := .tuple #[.agg #[.slice none 0 0], .int .i64 51]) (by simp [results, Try.results10, go_sem, r0]) rfl HF6.out.none_
/-- Add at every state, of every lock. -/
theorem add_any (A : Option Addr) (n c : Nat) (l : List Lk) (x : Lk) (w : World) (hr : Rd w A n c l) :
    Calls Try.prog 10 #[.agg #[.slice A n c], .agg #[.int .i64 x.t, .string x.lo.s, .string x.hi.s]] w (PairS (addR l x).1 (addR l x).2 w) := by
  unfold addR
  by_cases h : Ok l
  · by_cases hx : mayL x = true
    · by_cases hw : l.any (witB x) = true
      · simp only [h, hx, hw, if_true]
        exact add_wit A n c l x w hr h hx hw
      · by_cases hl : 512 < (asOne l x (touB x)).length
        · simp only [h, hx, hw, hl, if_true, if_false]
          exact add_full A n c l x w hr h hx (by simpa using hw) hl
        · simp only [h, hx, hw, hl, if_true, if_false]
          exact add_one A n c l x w hr h hx (by simpa using hw) (by omega)
    · simp only [h, hx, if_true, if_false]
      exact add_arg A n c l x w hr h (by simpa using hx)
  · simp only [h, if_false]
    exact add_bad A n c l x w hr h
end Go.Proofs.Ytmjcmeebcochgaa
