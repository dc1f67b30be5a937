/- What Fold of package eval answers of the least and the greatest of any values, and of the sum of the page's example: the walks. Conditions: lengths that every machine keeps. -/
import Derived.Test.YtjogpcffldkhlaaEe
namespace Go.Proofs.Ytjogpcffldkhlaa
open Go.RowKit Go.Sort
set_option linter.unusedSimpArgs false
set_option linter.unusedVariables false

set_option maxHeartbeats 1000000 in
theorem reckon_4 (k n : Int) (s : ByteArray) (k' n' : Int) (s' : ByteArray) (w : World) (ha : Hid (inR n = true)) (hb : Hid (inR n' = true)) :
    Calls Try.prog 29 #[.int .i64 4, .agg #[.int .i64 k, .int .i64 n, .string s], .agg #[.int .i64 k', .int .i64 n', .string s']] w fun e w' => e = .returned (.tuple #[.agg #[.int .i64 (rkK 4 k n s k' n' s'), .int .i64 (rkN 4 k n s k' n' s'), .string ⟨#[]⟩], .int .i64 (rkE 4 k n s k' n' s')]) ∧ Below w.heap.size w w' := by
  go_enter Try.func29, Try.ntmps29
  go_wp2_with (go_at_call 39; refine (reckonNumber_4 _ _ _ _ _ _ _ ha hb).mono ?_; rintro e w1 ⟨rfl, hb1⟩; obtain ⟨hc, hf⟩ := bcell hb1; have z1 := hb1.size; simp only [World.size_alloc] at z1)
  exact bodyPost_ret (v := .tuple #[.agg #[.int .i64 (rkK 4 k n s k' n' s'), .int .i64 (rkN 4 k n s k' n' s'), .string ⟨#[]⟩], .int .i64 (rkE 4 k n s k' n' s')]) (by simp [results, Try.results29, go_sem, hc]) rfl ⟨rfl, by repeat (first | exact Below.refl _ _ | (refine Below.setCell ?_ (by first | omega | (simp; done) | (simp; omega)) _) | (refine Below.alloc ?_ (by first | omega | (simp; done) | (simp; omega)) _) | (refine below_drewN ?_ _) | (refine Below.drew ?_) | (refine below_call hb1 (by first | omega | (simp; done) | (simp; omega)) ?_))⟩
theorem add_02 (w : World) : Calls Try.prog 29 #[.int .i64 4, .agg #[.int .i64 1, .int .i64 0, .string ⟨#[]⟩], .agg #[.int .i64 1, .int .i64 2, .string ⟨#[]⟩]] w fun e w' => e = .returned (.tuple #[.agg #[.int .i64 1, .int .i64 2, .string ⟨#[]⟩], .int .i64 0]) ∧ Below w.heap.size w w' := by
  have h := reckon_4 1 0 ⟨#[]⟩ 1 2 ⟨#[]⟩ w (by show inR 0 = true; decide +kernel) (by show inR 2 = true; decide +kernel)
  have e1 : rkK 4 1 0 ⟨#[]⟩ 1 2 ⟨#[]⟩ = 1 := by decide +kernel
  have e2 : rkN 4 1 0 ⟨#[]⟩ 1 2 ⟨#[]⟩ = 2 := by decide +kernel
  have e3 : rkE 4 1 0 ⟨#[]⟩ 1 2 ⟨#[]⟩ = 0 := by decide +kernel
  rw [e1, e2, e3] at h
  exact h
theorem add_23 (w : World) : Calls Try.prog 29 #[.int .i64 4, .agg #[.int .i64 1, .int .i64 2, .string ⟨#[]⟩], .agg #[.int .i64 1, .int .i64 3, .string ⟨#[]⟩]] w fun e w' => e = .returned (.tuple #[.agg #[.int .i64 1, .int .i64 5, .string ⟨#[]⟩], .int .i64 0]) ∧ Below w.heap.size w w' := by
  have h := reckon_4 1 2 ⟨#[]⟩ 1 3 ⟨#[]⟩ w (by show inR 2 = true; decide +kernel) (by show inR 3 = true; decide +kernel)
  have e1 : rkK 4 1 2 ⟨#[]⟩ 1 3 ⟨#[]⟩ = 1 := by decide +kernel
  have e2 : rkN 4 1 2 ⟨#[]⟩ 1 3 ⟨#[]⟩ = 5 := by decide +kernel
  have e3 : rkE 4 1 2 ⟨#[]⟩ 1 3 ⟨#[]⟩ = 0 := by decide +kernel
  rw [e1, e2, e3] at h
  exact h

theorem eNumber_any (n : Int) (w : World) :
    Calls Try.prog 13 #[.int .i64 n] w fun e w' => e = .returned (.agg #[.int .i64 1, .int .i64 n, .string ⟨#[]⟩]) ∧ Below w.heap.size w w' := by
  go_enter Try.func13, Try.ntmps13
  go_wp2
  exact bodyPost_ret (v := .agg #[.int .i64 1, .int .i64 n, .string ⟨#[]⟩]) (by simp [results, Try.results13, go_sem]) rfl ⟨rfl, by repeat (first | exact Below.refl _ _ | (refine Below.setCell ?_ (by first | omega | (simp; done) | (simp; omega)) _) | (refine Below.alloc ?_ (by first | omega | (simp; done) | (simp; omega)) _))⟩

def V0 : Vl := ⟨1, 0, ⟨#[]⟩, by decide +kernel, by decide⟩
theorem rkN_in (k n : Int) (s : ByteArray) (k' n' : Int) (s' : ByteArray) : inR (rkN 4 k n s k' n' s') = true := by
  have h0 : inR 0 = true := by decide +kernel
  unfold rkN numN
  split
  · split
    · exact h0
    · split
      · exact h0
      · split
        · assumption
        · exact h0
  · exact h0
/-- A sum, and its error. -/
def addV (a b : Vl) : Vl := ⟨rkK 4 a.k a.n a.s b.k b.n b.s, rkN 4 a.k a.n a.s b.k b.n b.s, ⟨#[]⟩, rkN_in _ _ _ _ _ _, by decide⟩
def addE (a b : Vl) : Int := rkE 4 a.k a.n a.s b.k b.n b.s
theorem add_V (a b : Vl) (w : World) : Calls Try.prog 29 #[.int .i64 4, .agg #[.int .i64 a.k, .int .i64 a.n, .string a.s], .agg #[.int .i64 b.k, .int .i64 b.n, .string b.s]] w fun e w' => e = .returned (.tuple #[.agg #[.int .i64 (addV a b).k, .int .i64 (addV a b).n, .string (addV a b).s], .int .i64 (addE a b)]) ∧ Below w.heap.size w w' :=
  reckon_4 _ _ _ _ _ _ w a.h.1 b.h.1
/-- The sum from the left, and its error. -/
def sumL : Vl → List Vl → Vl × Int
  | x, [] => (x, 0)
  | x, v :: l => if addE x v = 0 then sumL (addV x v) l else (zeroV, addE x v)

set_option maxHeartbeats 2000000 in
theorem total_any (A : Option Addr) (n c : Nat) (l : List Vl) (w : World) (hl : n = l.length) (hr : RdL w A l) (hn : n ≤ 9223372036854775807) :
    Calls Try.prog 19 #[.slice A n c] w fun e w' => e = .returned (.tuple #[(sumL V0 l).1.val, .int .i64 (sumL V0 l).2]) ∧ Below w.heap.size w w' := by
  subst hl
  have HR := Lib.hid hr
  clear hr
  go_enter Try.func19, Try.ntmps19
  go_wp2_with (go_at_call 13; refine (eNumber_any _ _).mono ?_; rintro e w1 ⟨rfl, hb1⟩; have HB1 := Lib.hid hb1; clear hb1)
  have hz1 := HB1.out.size
  simp only [World.size_alloc] at hz1
  go_loopw [12] (fun i wr => ∃ (j : Nat) (x : Vl), i = .int .i64 j ∧ j ≤ l.length ∧ sumL x (l.drop j) = sumL V0 l ∧ Row wr w.heap.size [zeroV] ∧ Row wr w1.heap.size [x] ∧ Below w.heap.size w wr ∧ w1.heap.size < wr.heap.size) (fun i _ => l.length - (intOf i).toNat)
  case atStart => exact ⟨0, V0, rfl, by omega, rfl, ((Row.new w zeroV _ _ rfl).below HB1.out).below (below1 _ _), Row.new w1 V0 _ _ rfl, ((below1 w (.cells #[.int .i64 0, .int .i64 0, .string ⟨#[]⟩] 23)).trans (HB1.out.mono (by simp))).alloc (by omega) _, by simp⟩
  case round =>
    obtain ⟨j, x, rfl, hle, hx, hR0, hR1, hB, hz⟩ := hrel
    have HX := Lib.hid hx
    have H0 := Lib.hid hR0
    have H1 := Lib.hid hR1
    have HB := Lib.hid hB
    clear hx hR0 hR1 hB
    by_cases hlt : j < l.length
    · obtain ⟨ad, rfl, c0, c1, c2⟩ := (HR.out.below HB.out).at_ hlt
      have hb0 := cell_lt c0
      rw [add_block] at hb0
      obtain ⟨b0, b1, b2, _, _, _⟩ := H1.out.one
      have ho := fun w => add_V x l[j] w
      have hdr : l.drop j = l[j] :: l.drop (j + 1) := List.drop_eq_getElem_cons hlt
      have HD := Lib.hid hdr
      clear hdr
      generalize hY : addV x l[j] = Y at ho
      generalize hE : addE x l[j] = E at ho
      have HY := Lib.hid hY
      have HE := Lib.hid hE
      clear hY hE
      by_cases hE0 : E = 0
      · subst hE0
        go_wp2_with (go_at_call 29; refine (ho _).mono ?_; rintro e w2 ⟨rfl, hb2⟩; have HB2 := Lib.hid ((below1 _ _).trans (hb2.mono (by simp))); clear hb2; have z3 : w1.heap.size < w2.heap.size := Nat.lt_of_lt_of_le hz HB2.out.size; have z4 : w.heap.size < w2.heap.size := Nat.lt_of_le_of_lt (by omega) z3; obtain ⟨s0, s1, s2, g0, g1, g2⟩ := (H1.out.below HB2.out).one)
        go_roundw
        case rel =>
          have hs : sumL Y (l.drop (j + 1)) = sumL V0 l := by
            rw [← HX.out, HD.out, sumL, if_pos HE.out, HY.out]
          exact ⟨j + 1, Y, by go_num, hlt, hs, ((H0.out.below HB2.out).other (g' := w1.heap.size) (valC Y) 0 (by omega)).below (below1 _ _), ((H1.out.below HB2.out).set (i := 0) Y (by simp)).below (below1 _ _), (below_cells (g := w1.heap.size) (by omega) (valC Y) 0 (HB.out.trans (HB2.out.mono HB.out.size))).alloc (by simp [World.setCells, valC]; omega) _, by simp; omega⟩
        case measure => simp [intOf]; omega
      · go_wp2_with (go_at_call 29; refine (ho _).mono ?_; rintro e w2 ⟨rfl, hb2⟩; have HB2 := Lib.hid ((below1 _ _).trans (hb2.mono (by simp))); clear hb2; have z3 : w1.heap.size < w2.heap.size := Nat.lt_of_lt_of_le hz HB2.out.size; have z4 : w.heap.size < w2.heap.size := Nat.lt_of_le_of_lt (by omega) z3; obtain ⟨s0, s1, s2, g0, g1, g2⟩ := (H0.out.below HB2.out).one)
        have hs : sumL V0 l = (zeroV, E) := by rw [← HX.out, HD.out, sumL, if_neg (by rw [HE.out]; exact hE0), HE.out]
        exact bodyPost_ret (v := .tuple #[zeroV.val, .int .i64 E]) (by simp [results, Try.results19, go_sem, s0, s1, s2, z4]; exact ⟨rfl, rfl, rfl⟩) rfl ⟨by rw [hs], (below_cells (Nat.le_refl _) (valC zeroV) 0 (HB.out.trans (HB2.out.mono HB.out.size))).alloc (by simp [World.setCells, valC]; omega) _⟩
    · obtain ⟨b0, b1, b2, _, _, _⟩ := H1.out.one
      obtain ⟨r0, r1, r2, f0, f1, f2⟩ := H0.out.one
      have e : j = l.length := by omega
      have hs : sumL V0 l = (x, 0) := by rw [← HX.out, e, List.drop_length]; rfl
      have HS := Lib.hid hs
      clear hs e
      go_wp2
      exact bodyPost_ret (v := .tuple #[x.val, .int .i64 0]) (by simp [results, Try.results19, go_sem, r0, r1, r2]) rfl ⟨by rw [HS.out], below_cells (Nat.le_refl _) (valC x) 0 HB.out⟩

/-- A list of what is not NULL: what the aggregate makes of it. -/
def FoldX (up : Bool) (l : List Vl) (x : Vl) : Prop := (l = [] ∧ x = zeroV) ∨ (l ≠ [] ∧ Ext up l x)

theorem clone_any (A : Option Addr) (n c : Nat) (l : List Vl) (w : World) (hl : n = l.length) (hr : RdL w A l) (hA : A = none → n = 0) (hn : n * 32 ≤ 140737488355328) :
    Calls Try.prog 15 #[.slice A n c] w fun e w' => ∃ v, e = .returned v ∧ w'.ownsRow w.heap.size 23 3 v n (vals l) ∧ Below w.heap.size w w' := by
  rcases A with _ | ad
  · have h0 := hA rfl
    have e : l = [] := List.eq_nil_of_length_eq_zero (by omega)
    subst e h0
    exact (lClone_nil 0 c w).mono fun e w' ⟨h1, h2⟩ => ⟨_, h1, World.ownsRow_nil _ _ _ _, h2 ▸ Below.refl _ _⟩
  · exact lClone_some ad n c l w hl hr hn

theorem Row.under {w w' : World} {g B : Nat} {m : List Vl} (h : Row w g m) (hb : Below B w w') (hg : g < B) : Row w' g m := by
  refine ⟨fun j v hj => (hb.cell (p := ⟨g, 0 + j, none⟩) hg).trans (h.cells j v hj), fun j hj => ?_⟩
  have h1 := h.there j hj
  rw [← hb.cell (p := ⟨g, 0 + j, none⟩) hg, ← hb.frozen (p := ⟨g, 0 + j, none⟩) hg] at h1
  exact h1
theorem Row.zero (w : World) : Row (w.alloc (.cells #[.int .i64 0, .int .i64 0, .string ⟨#[]⟩] 23)) w.heap.size [zeroV] := Row.new w zeroV _ _ rfl

set_option maxHeartbeats 2000000 in
theorem fold_min_nil (A : Option Addr) (n c : Nat) (l : List Vl) (w : World) (hl : n = l.length) (hr : RdL w A l) (hA : A = none → n = 0) (hn : n * 32 ≤ 140737488355328) (hm : l.filter keepV = []) :
    Calls Try.prog 8 #[.int .i64 21, .slice A n c] w fun e w' => e = .returned (.tuple #[.agg #[.int .i64 0, .int .i64 0, .string ⟨#[]⟩], .int .i64 0]) ∧ Below w.heap.size w w' := by
  have hc := clone_any A n c l (w.alloc (.cells #[.int .i64 0, .int .i64 0, .string ⟨#[]⟩] 23)) hl (hr.below (below1 _ _)) hA hn
  have hd := fun v w1 (ho : World.ownsRow w1 _ 23 3 v n (vals l)) (hb : (w.alloc (.cells #[.int .i64 0, .int .i64 0, .string ⟨#[]⟩] 23)).heap.size ≤ w1.heap.size) => delete_any v n _ l w1 ho hb (by omega)
  rw [hm] at hd
  clear hl hr hm
  go_enter Try.func8, Try.ntmps8
  go_wp2_with (first | (go_at_call 15; refine hc.mono ?_; rintro e w1 ⟨v, rfl, ho, hb1⟩; have HO := Lib.hid ho; have HB1 := Lib.hid hb1; clear ho hb1) | (go_at_call 14; refine (hd v w1 HO.out HB1.out.size).mono ?_; rintro e w2 ⟨B, d, rfl, hr, hb2⟩; have HB2 := Lib.hid hb2; clear hr hb2; obtain ⟨s0, s1, s2, g0, g1, g2⟩ := (((Row.zero w).below HB1.out).under HB2.out (by simp)).one))
  exact bodyPost_ret (v := .tuple #[.agg #[.int .i64 0, .int .i64 0, .string ⟨#[]⟩], .int .i64 0]) (by simp [results, Try.results8, go_sem, s0, s1, s2]) rfl ⟨rfl, below_cells (Nat.le_refl _) (valC zeroV) 0 ((below1 _ _).trans ((HB1.out.mono (by simp)).trans (HB2.out.mono (by simp))))⟩

set_option maxHeartbeats 2000000 in
theorem fold_min_some (A : Option Addr) (n c : Nat) (l : List Vl) (w : World) (hl : n = l.length) (hr : RdL w A l) (hA : A = none → n = 0) (hn : n * 32 ≤ 140737488355328) (m : List Vl) (hm : l.filter keepV = m) (hpos : 0 < m.length) :
    Calls Try.prog 8 #[.int .i64 21, .slice A n c] w fun e w' => ∃ x : Vl, e = .returned (.tuple #[.agg #[.int .i64 x.k, .int .i64 x.n, .string x.s], .int .i64 0]) ∧ Ext false m x ∧ Below w.heap.size w w' := by
  have hc := clone_any A n c l (w.alloc (.cells #[.int .i64 0, .int .i64 0, .string ⟨#[]⟩] 23)) hl (hr.below (below1 _ _)) hA hn
  have hd := fun v w1 (ho : World.ownsRow w1 _ 23 3 v n (vals l)) (hb : (w.alloc (.cells #[.int .i64 0, .int .i64 0, .string ⟨#[]⟩] 23)).heap.size ≤ w1.heap.size) => delete_any v n _ l w1 ho hb (by omega)
  rw [hm] at hd
  have hlen : m.length ≤ n := by rw [← hm, hl]; exact List.length_filter_le _ _
  clear hl hr hm
  go_enter Try.func8, Try.ntmps8
  go_wp2_with (first | (go_at_call 15; refine hc.mono ?_; rintro e w1 ⟨v, rfl, ho, hb1⟩; have HO := Lib.hid ho; have HB1 := Lib.hid hb1; clear ho hb1) | (go_at_call 14; refine (hd v w1 HO.out HB1.out.size).mono ?_; rintro e w2 ⟨B, d, rfl, hr, hb2⟩; obtain ⟨ad, rfl, _⟩ := hr.at_ hpos; have HR := Lib.hid hr; have HB2 := Lib.hid hb2; clear hr hb2) | (go_at_call 17; refine (min_any ad _ _ m w2 rfl HR.out (by omega) hpos).mono ?_; rintro e w3 ⟨x, rfl, hx, hb3⟩; have HX := Lib.hid hx; have HB3 := Lib.hid hb3; clear hx hb3) | (go_at_call 12; refine (fresh_any x _).mono ?_; rintro e w4 ⟨rfl, hb4⟩; have HB4 := Lib.hid hb4; clear hb4; obtain ⟨s0, s1, s2, g0, g1, g2⟩ := (((((Row.zero w).below HB1.out).under HB2.out (by simp)).below HB3.out).below HB4.out).one))
  exact bodyPost_ret (v := .tuple #[.agg #[.int .i64 x.k, .int .i64 x.n, .string x.s], .int .i64 0]) (by simp [results, Try.results8, go_sem, s0, s1, s2]) rfl ⟨x, rfl, HX.out, below_cells (Nat.le_refl _) (valC x) 0 ((below1 _ _).trans ((HB1.out.mono (by simp)).trans ((HB2.out.mono (by simp)).trans ((HB3.out.mono (by have := HB1.out.size; have := HB2.out.size; simp at *; omega)).trans (HB4.out.mono (by have := HB1.out.size; have := HB2.out.size; have := HB3.out.size; simp at *; omega))))))⟩

set_option maxHeartbeats 2000000 in
theorem fold_max_nil (A : Option Addr) (n c : Nat) (l : List Vl) (w : World) (hl : n = l.length) (hr : RdL w A l) (hA : A = none → n = 0) (hn : n * 32 ≤ 140737488355328) (hm : l.filter keepV = []) :
    Calls Try.prog 8 #[.int .i64 22, .slice A n c] w fun e w' => e = .returned (.tuple #[.agg #[.int .i64 0, .int .i64 0, .string ⟨#[]⟩], .int .i64 0]) ∧ Below w.heap.size w w' := by
  have hc := clone_any A n c l (w.alloc (.cells #[.int .i64 0, .int .i64 0, .string ⟨#[]⟩] 23)) hl (hr.below (below1 _ _)) hA hn
  have hd := fun v w1 (ho : World.ownsRow w1 _ 23 3 v n (vals l)) (hb : (w.alloc (.cells #[.int .i64 0, .int .i64 0, .string ⟨#[]⟩] 23)).heap.size ≤ w1.heap.size) => delete_any v n _ l w1 ho hb (by omega)
  rw [hm] at hd
  clear hl hr hm
  go_enter Try.func8, Try.ntmps8
  go_wp2_with (first | (go_at_call 15; refine hc.mono ?_; rintro e w1 ⟨v, rfl, ho, hb1⟩; have HO := Lib.hid ho; have HB1 := Lib.hid hb1; clear ho hb1) | (go_at_call 14; refine (hd v w1 HO.out HB1.out.size).mono ?_; rintro e w2 ⟨B, d, rfl, hr, hb2⟩; have HB2 := Lib.hid hb2; clear hr hb2; obtain ⟨s0, s1, s2, g0, g1, g2⟩ := (((Row.zero w).below HB1.out).under HB2.out (by simp)).one))
  exact bodyPost_ret (v := .tuple #[.agg #[.int .i64 0, .int .i64 0, .string ⟨#[]⟩], .int .i64 0]) (by simp [results, Try.results8, go_sem, s0, s1, s2]) rfl ⟨rfl, below_cells (Nat.le_refl _) (valC zeroV) 0 ((below1 _ _).trans ((HB1.out.mono (by simp)).trans (HB2.out.mono (by simp))))⟩

set_option maxHeartbeats 2000000 in
theorem fold_max_some (A : Option Addr) (n c : Nat) (l : List Vl) (w : World) (hl : n = l.length) (hr : RdL w A l) (hA : A = none → n = 0) (hn : n * 32 ≤ 140737488355328) (m : List Vl) (hm : l.filter keepV = m) (hpos : 0 < m.length) :
    Calls Try.prog 8 #[.int .i64 22, .slice A n c] w fun e w' => ∃ x : Vl, e = .returned (.tuple #[.agg #[.int .i64 x.k, .int .i64 x.n, .string x.s], .int .i64 0]) ∧ Ext true m x ∧ Below w.heap.size w w' := by
  have hc := clone_any A n c l (w.alloc (.cells #[.int .i64 0, .int .i64 0, .string ⟨#[]⟩] 23)) hl (hr.below (below1 _ _)) hA hn
  have hd := fun v w1 (ho : World.ownsRow w1 _ 23 3 v n (vals l)) (hb : (w.alloc (.cells #[.int .i64 0, .int .i64 0, .string ⟨#[]⟩] 23)).heap.size ≤ w1.heap.size) => delete_any v n _ l w1 ho hb (by omega)
  rw [hm] at hd
  have hlen : m.length ≤ n := by rw [← hm, hl]; exact List.length_filter_le _ _
  clear hl hr hm
  go_enter Try.func8, Try.ntmps8
  go_wp2_with (first | (go_at_call 15; refine hc.mono ?_; rintro e w1 ⟨v, rfl, ho, hb1⟩; have HO := Lib.hid ho; have HB1 := Lib.hid hb1; clear ho hb1) | (go_at_call 14; refine (hd v w1 HO.out HB1.out.size).mono ?_; rintro e w2 ⟨B, d, rfl, hr, hb2⟩; obtain ⟨ad, rfl, _⟩ := hr.at_ hpos; have HR := Lib.hid hr; have HB2 := Lib.hid hb2; clear hr hb2) | (go_at_call 18; refine (max_any ad _ _ m w2 rfl HR.out (by omega) hpos).mono ?_; rintro e w3 ⟨x, rfl, hx, hb3⟩; have HX := Lib.hid hx; have HB3 := Lib.hid hb3; clear hx hb3) | (go_at_call 12; refine (fresh_any x _).mono ?_; rintro e w4 ⟨rfl, hb4⟩; have HB4 := Lib.hid hb4; clear hb4; obtain ⟨s0, s1, s2, g0, g1, g2⟩ := (((((Row.zero w).below HB1.out).under HB2.out (by simp)).below HB3.out).below HB4.out).one))
  exact bodyPost_ret (v := .tuple #[.agg #[.int .i64 x.k, .int .i64 x.n, .string x.s], .int .i64 0]) (by simp [results, Try.results8, go_sem, s0, s1, s2]) rfl ⟨x, rfl, HX.out, below_cells (Nat.le_refl _) (valC x) 0 ((below1 _ _).trans ((HB1.out.mono (by simp)).trans ((HB2.out.mono (by simp)).trans ((HB3.out.mono (by have := HB1.out.size; have := HB2.out.size; simp at *; omega)).trans (HB4.out.mono (by have := HB1.out.size; have := HB2.out.size; have := HB3.out.size; simp at *; omega))))))⟩

set_option maxHeartbeats 2000000 in
theorem fold_sum_some (A : Option Addr) (n c : Nat) (l : List Vl) (w : World) (hl : n = l.length) (hr : RdL w A l) (hA : A = none → n = 0) (hn : n * 32 ≤ 140737488355328) (m : List Vl) (hm : l.filter keepV = m) (hpos : 0 < m.length) (X : Vl) (E : Int) (hX : sumL V0 m = (X, E)) :
    Calls Try.prog 8 #[.int .i64 20, .slice A n c] w fun e w' => e = .returned (.tuple #[.agg #[.int .i64 X.k, .int .i64 X.n, .string X.s], .int .i64 E]) ∧ Below w.heap.size w w' := by
  have hc := clone_any A n c l (w.alloc (.cells #[.int .i64 0, .int .i64 0, .string ⟨#[]⟩] 23)) hl (hr.below (below1 _ _)) hA hn
  have hd := fun v w1 (ho : World.ownsRow w1 _ 23 3 v n (vals l)) (hb : (w.alloc (.cells #[.int .i64 0, .int .i64 0, .string ⟨#[]⟩] 23)).heap.size ≤ w1.heap.size) => delete_any v n _ l w1 ho hb (by omega)
  rw [hm] at hd
  have hlen : m.length ≤ n := by rw [← hm, hl]; exact List.length_filter_le _ _
  have ht : ∀ ad d w2, RdL w2 (some ad) m → Calls Try.prog 19 #[.slice (some ad) m.length d] w2 fun e w' => e = .returned (.tuple #[.agg #[.int .i64 X.k, .int .i64 X.n, .string X.s], .int .i64 E]) ∧ Below w2.heap.size w2 w' := fun ad d w2 h => by
    have := total_any (some ad) m.length d m w2 rfl h (by omega)
    rw [hX] at this
    exact this
  clear hl hr hm hX
  go_enter Try.func8, Try.ntmps8
  go_wp2_with (first | (go_at_call 15; refine hc.mono ?_; rintro e w1 ⟨v, rfl, ho, hb1⟩; have HO := Lib.hid ho; have HB1 := Lib.hid hb1; clear ho hb1) | (go_at_call 14; refine (hd v w1 HO.out HB1.out.size).mono ?_; rintro e w2 ⟨B, d, rfl, hr, hb2⟩; obtain ⟨ad, rfl, _⟩ := hr.at_ hpos; have HR := Lib.hid hr; have HB2 := Lib.hid hb2; clear hr hb2) | (go_at_call 19; refine (ht ad _ w2 HR.out).mono ?_; rintro e w3 ⟨rfl, hb3⟩; have HB3 := Lib.hid hb3; clear hb3; obtain ⟨s0, s1, s2, g0, g1, g2⟩ := ((((Row.zero w).below HB1.out).under HB2.out (by simp)).below HB3.out).one))
  exact bodyPost_ret (v := .tuple #[.agg #[.int .i64 X.k, .int .i64 X.n, .string X.s], .int .i64 E]) (by simp [results, Try.results8, go_sem, s0, s1, s2]) rfl ⟨rfl, below_cells (Nat.le_refl _) (valC X) 0 ((below1 _ _).trans ((HB1.out.mono (by simp)).trans ((HB2.out.mono (by simp)).trans (HB3.out.mono (by have := HB1.out.size; have := HB2.out.size; simp at *; omega)))))⟩

end Go.Proofs.Ytjogpcffldkhlaa
