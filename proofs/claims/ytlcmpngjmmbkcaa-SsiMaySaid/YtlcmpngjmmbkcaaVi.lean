/- What draw of package ssi answers: the walk. Conditions: a row that may be written, two places in it, of which none was given up. -/
import Derived.Test.YtlcmpngjmmbkcaaVh
namespace Go.Proofs.Ytlcmpngjmmbkcaa
open Go.RowKit Go.Sort Go.Maps Go.ChangeMaps Go.MapKept Go.WideShapes
set_option linter.unusedSimpArgs false
set_option linter.unusedVariables false

/-- Those two of whom it is said that they are to be given up. -/
def idsOf (x y : Tx) (M : List Int) : List Int := (if x.i ∈ M then [x.i] else []) ++ (if y.i ∈ M then [y.i] else [])
/-- A list of numbers of the call's own. -/
def ints (l : List Int) : List Value := l.map fun i => .int .i64 i
/-- What draw makes of a list, and who is to be given up. -/
def draR (l : List Tx) (P Q : Nat) (x y : Tx) : List Tx × List Int :=
  ((rnd fI Q P (rnd fO P Q (l, []))).1, idsOf x y (rnd fI Q P (rnd fO P Q (l, []))).2)
theorem rnd_no {f : Tx → Tx} {p q : Nat} {m : List Tx} {M : List Int} {x y : Tx} (hx : m[p]? = some x) (hy : m[q]? = some y) (h : ((f x).a && (f x).o) = false) : rnd f p q (m, M) = (m.set p (f x), M) := by
  simp [rnd, hx, hy] at *
  intro h1 h2
  rw [h h1] at h2
  cases h2
theorem rnd_act {f : Tx → Tx} {p q : Nat} {m : List Tx} {M : List Int} {x y : Tx} (hx : m[p]? = some x) (hy : m[q]? = some y) (h : ((f x).a && (f x).o) = true) (h0 : ¬ 0 < x.e) : rnd f p q (m, M) = (m.set p (f x), x.i :: M) := by
  simp only [rnd, hx, hy, h, if_true, if_neg h0]
theorem rnd_yes {f : Tx → Tx} {p q : Nat} {m : List Tx} {M : List Int} {x y : Tx} (hx : m[p]? = some x) (hy : m[q]? = some y) (h : ((f x).a && (f x).o) = true) (h0 : 0 < x.e) (h1 : y.e = 0) : rnd f p q (m, M) = (m, y.i :: M) := by
  simp only [rnd, hx, hy, h, if_true, if_pos h0, if_pos h1]
theorem rnd_none {f : Tx → Tx} {p q : Nat} {m : List Tx} {M : List Int} {x y : Tx} (hx : m[p]? = some x) (hy : m[q]? = some y) (h : ((f x).a && (f x).o) = true) (h0 : 0 < x.e) (h1 : y.e ≠ 0) : rnd f p q (m, M) = (m, M) := by
  simp only [rnd, hx, hy, h, if_true, if_pos h0, if_neg h1]
/-- One round keeps the numbers of all. -/
structure Kept (l m : List Tx) : Prop where
  len : m.length = l.length
  all : ∀ (j : Nat) (t : Tx), l[j]? = some t → ∃ u, m[j]? = some u ∧ u.i = t.i ∧ u.s = t.s ∧ u.e = t.e
theorem Kept.refl (l : List Tx) : Kept l l := ⟨rfl, fun j t h => ⟨t, h, rfl, rfl, rfl⟩⟩
theorem Kept.trans {a b c : List Tx} (h : Kept a b) (k : Kept b c) : Kept a c := ⟨k.len.trans h.len, fun j t ht => by
  obtain ⟨u, hu, e1, e2, e3⟩ := h.all j t ht
  obtain ⟨v, hv, g1, g2, g3⟩ := k.all j u hu
  exact ⟨v, hv, g1.trans e1, g2.trans e2, g3.trans e3⟩⟩
theorem Kept.set {m : List Tx} {p : Nat} {x z : Tx} (hx : m[p]? = some x) (h : z.i = x.i ∧ z.s = x.s ∧ z.e = x.e) : Kept m (m.set p z) := ⟨by simp, fun j t ht => by
  by_cases e : p = j
  · subst e
    rw [hx] at ht
    injection ht with ht
    subst ht
    exact ⟨z, by rw [List.getElem?_set_self (List.getElem?_eq_some_iff.1 hx).1], h⟩
  · exact ⟨t, by rw [List.getElem?_set_ne e]; exact ht, rfl, rfl, rfl⟩⟩
theorem rnd_kept {f : Tx → Tx} (hf : ∀ x, (f x).i = x.i ∧ (f x).s = x.s ∧ (f x).e = x.e) {p q : Nat} {m : List Tx} {M : List Int} {x y : Tx} (hx : m[p]? = some x) (hy : m[q]? = some y) : Kept m (rnd f p q (m, M)).1 ∧ (rnd f p q (m, M)).2.length ≤ M.length + 1 := by
  cases h : ((f x).a && (f x).o)
  · rw [rnd_no hx hy h]
    exact ⟨Kept.set hx (hf x), by simp⟩
  · by_cases h0 : 0 < x.e
    · by_cases h1 : y.e = 0
      · rw [rnd_yes hx hy h h0 h1]; exact ⟨Kept.refl _, by simp⟩
      · rw [rnd_none hx hy h h0 h1]; exact ⟨Kept.refl _, by simp⟩
    · rw [rnd_act hx hy h h0]; exact ⟨Kept.set hx (hf x), by simp⟩
theorem fO_kept : ∀ x, (fO x).i = x.i ∧ (fO x).s = x.s ∧ (fO x).e = x.e := fun _ => ⟨rfl, rfl, rfl⟩
theorem fI_kept : ∀ x, (fI x).i = x.i ∧ (fI x).s = x.s ∧ (fI x).e = x.e := fun _ => ⟨rfl, rfl, rfl⟩
theorem rnd_far {f : Tx → Tx} {p q : Nat} {m : List Tx} {M : List Int} {x y : Tx} (hx : m[p]? = some x) (hy : m[q]? = some y) (hne : p ≠ q) : (rnd f p q (m, M)).1[q]? = some y := by
  cases h : ((f x).a && (f x).o)
  · rw [rnd_no hx hy h]; exact (List.getElem?_set_ne hne).trans hy
  · by_cases h0 : 0 < x.e
    · by_cases h1 : y.e = 0
      · rw [rnd_yes hx hy h h0 h1]; exact hy
      · rw [rnd_none hx hy h h0 h1]; exact hy
    · rw [rnd_act hx hy h h0]; exact (List.getElem?_set_ne hne).trans hy
theorem set_back {m : List Tx} {p : Nat} {x z : Tx} (hx : m[p]? = some x) : (m.set p z).set p x = m := by
  obtain ⟨h, e⟩ := List.getElem?_eq_some_iff.1 hx
  rw [List.set_set, ← e]
  exact List.set_getElem_self h
theorem index0 (P Q : Nat) (W : World) : (Instr.index 61 (.agg #[.int .i64 P, .int .i64 Q]) (.int .i64 0)).run Try.prog W = .ok (.int .i64 P) W := by kernel_rfl
theorem index1 (P Q : Nat) (W : World) : (Instr.index 61 (.agg #[.int .i64 P, .int .i64 Q]) (.int .i64 1)).run Try.prog W = .ok (.int .i64 Q) W := by kernel_rfl
/-- The stages of draw's loop. -/
def stg (l : List Tx) (P Q : Nat) : Nat → List Tx × List Int
  | 0 => (l, [])
  | 1 => rnd fO P Q (l, [])
  | _ => rnd fI Q P (rnd fO P Q (l, []))
def idsAt (x y : Tx) (M : List Int) : Nat → List Int
  | 0 => []
  | 1 => if x.i ∈ M then [x.i] else []
  | _ => idsOf x y M
theorem ids1_yes {x y : Tx} {M : List Int} (h : x.i ∈ M) : idsAt x y M 1 = idsAt x y M 0 ++ [x.i] := by simp [idsAt, h]
theorem ids1_no {x y : Tx} {M : List Int} (h : ¬ x.i ∈ M) : idsAt x y M 1 = idsAt x y M 0 := by simp [idsAt, h]
theorem ids2_yes {x y : Tx} {M : List Int} (h : y.i ∈ M) : idsAt x y M 2 = idsAt x y M 1 ++ [y.i] := by simp [idsAt, idsOf, h]
theorem ids2_no {x y : Tx} {M : List Int} (h : ¬ y.i ∈ M) : idsAt x y M 2 = idsAt x y M 1 := by simp [idsAt, idsOf, h]
theorem ids_few (x y : Tx) (M : List Int) (j : Nat) : (idsAt x y M j).length ≤ 2 := by
  unfold idsAt idsOf
  split
  · simp
  · split <;> simp
  · split <;> split <;> simp
/-- A list of the call's own lies in none of these blocks. -/
def Far (v : Value) (a b c d : Nat) : Prop := ∀ k, v.ownBlock = some k → k ≠ a ∧ k ≠ b ∧ k ≠ c ∧ k ≠ d
theorem Far.nil {a b c d : Nat} : Far (.slice none 0 0) a b c d := fun k h => by cases h
theorem Far.next {v v' : Value} {a b c d s : Nat} (h : Far v a b c d) (hn : v'.ownBlock = v.ownBlock ∨ v'.ownBlock = some s) (ha : a < s) (hb : b < s) (hc : c < s) (hd : d < s) : Far v' a b c d := fun k hk => by
  rcases hn with e | e
  · exact h k (e.symm.trans hk)
  · rw [e] at hk
    injection hk with hk
    omega
theorem D.far {w W W' : World} {g n P Q p0 p1 p2 p3 : Nat} {z : List Tx × List Int} {v : Value} (h : D w g n P Q p0 p1 p2 p3 W z) (hw : W.grownBy W' v.ownBlock) (hf : Far v p1 p2 p3 p0) (hb : ∀ k, v.ownBlock = some k → w.heap.size ≤ k) : D w g n P Q p0 p1 p2 p3 W' z := by
  have hg := h.hg
  cases hv : v.ownBlock with
  | none =>
    rw [hv] at hw
    exact h.below ⟨hw.os, hw.tape, hw.output, hw.size, fun k hk => hw.block k hk (by simp)⟩
  | some k =>
    obtain ⟨a, b, c, d⟩ := hf k hv
    have hk := hb k hv
    rw [hv] at hw
    exact ⟨cell_of_grown hw (Ne.symm d) h.cl, cell_of_grown hw (Ne.symm a) h.cp, cell_of_grown hw (Ne.symm a) h.cq, cell_of_grown hw (Ne.symm b) h.s0, cell_of_grown hw (Ne.symm b) h.s1,
      (by
        by_cases h0 : 0 < z.1.length
        · exact h.row.same (hw.block g (h.row.lt h0) (fun e => by injection e with e; omega))
        · have e : z.1 = [] := List.eq_nil_of_length_eq_zero (by omega)
          exact ⟨fun j v hj => by rw [e] at hj; simp [txs] at hj, fun j hj => by rw [e] at hj; simp at hj⟩), set_other h.met hw (Ne.symm c), grown_new h.own hw hk, hg, h.lo, h.ne⟩
theorem Try.infoI : (Try.prog.info? 3).map (fun i => (i.zero, i.size, i.bytes)) = some (some (.int .i64 0), 1, 8) := by kernel_rfl
theorem ints_one (l : List Int) : ∀ u ∈ ints l, u.oneCell' = true := fun u hu => by
  unfold ints at hu
  obtain ⟨i, _, rfl⟩ := List.mem_map.1 hu
  rfl
theorem int_news (W : World) (i : Int) : ∀ j u, (ints [i])[j]? = some u → (W.alloc (.cells #[.int .i64 i] 3)).cell? ((⟨W.heap.size, 0, none⟩ : Addr).add j) = some u := fun j u hu => by
  rw [add_lit, Nat.zero_add, cell_last _ _ _ _ _ rfl, ← hu]
  simp [ints]
theorem ints_app (l m : List Int) : ints (l ++ m) = ints l ++ ints m := by simp [ints]
set_option maxRecDepth 100000 in
set_option maxHeartbeats 16000000 in
theorem draw_any (g n P Q : Nat) (l : List Tx) (x y : Tx) (w : World) (hrow : Row w g l) (hn : l.length = n) (hn2 : n ≤ 64) (hx : l[P]? = some x) (hy : l[Q]? = some y) (hPQ : P ≠ Q) (hx0 : 0 ≤ x.e) (hy0 : 0 ≤ y.e) (hxi : 0 < x.i ∧ x.i ≤ 1099511627776) (hyi : 0 < y.i ∧ y.i ≤ 1099511627776) :
    Calls Try.prog 22 #[.slice (some ⟨g, 0, none⟩) n n, .agg #[.int .i64 P, .int .i64 Q]] w fun e w' => ∃ v, e = .returned v ∧ w'.ownsRow w.heap.size 3 1 v (draR l P Q x y).2.length (ints (draR l P Q x y).2) ∧ Row w' g (draR l P Q x y).1 ∧ w.grownBy w' (some g) := by
  obtain ⟨i0, hi, hz0, hz1, hz2⟩ := info_parts Try.infoI
  have hPl := (List.getElem?_eq_some_iff.1 hx).1
  have hQl := (List.getElem?_eq_some_iff.1 hy).1
  have hg := hrow.lt (by omega)
  have hmm := @run_makeMap Try.prog
  go_enter Try.func22, Try.ntmps22
  go_upto_region 3 with fail
  have hD : D w g n P Q w.heap.size (w.heap.size + 1) (w.heap.size + 1 + 1) (w.heap.size + 1 + 1 + 1) ((((w.alloc (.cells #[.slice (some ⟨g, 0, none⟩) n n] 26)).alloc (.cells #[.int .i64 P, .int .i64 Q] 61)).alloc (.cells #[.func (.func 29) #[] #[.pointer (some ⟨w.heap.size, 0, none⟩), .pointer (some ⟨w.heap.size + 1, 0, none⟩)], .func (.func 30) #[] #[.pointer (some ⟨w.heap.size, 0, none⟩), .pointer (some ⟨w.heap.size + 1, 0, none⟩)]] 70)).alloc (.map #[] 0)) (l, []) := by
    have b1 := below1 w (.cells #[.slice (some ⟨g, 0, none⟩) n n] 26)
    have b2 := below1 (w.alloc (.cells #[.slice (some ⟨g, 0, none⟩) n n] 26)) (.cells #[.int .i64 P, .int .i64 Q] 61)
    have e1 : (w.alloc (.cells #[.slice (some ⟨g, 0, none⟩) n n] 26)).heap.size = w.heap.size + 1 := by simp
    have c0 := cell_keep (cell_last w #[.slice (some ⟨g, 0, none⟩) n n] 26 w.heap.size 0 rfl) b2
    have q0 := cell_last (w.alloc (.cells #[.slice (some ⟨g, 0, none⟩) n n] 26)) #[.int .i64 P, .int .i64 Q] 61 (w.heap.size + 1) 0 e1.symm
    have q1 := cell_last (w.alloc (.cells #[.slice (some ⟨g, 0, none⟩) n n] 26)) #[.int .i64 P, .int .i64 Q] 61 (w.heap.size + 1) 1 e1.symm
    have b12 := thn b1 b2
    have e2 : ((w.alloc (.cells #[.slice (some ⟨g, 0, none⟩) n n] 26)).alloc (.cells #[.int .i64 P, .int .i64 Q] 61)).heap.size = w.heap.size + 1 + 1 := by simp
    generalize (w.alloc (.cells #[.slice (some ⟨g, 0, none⟩) n n] 26)).alloc (.cells #[.int .i64 P, .int .i64 Q] 61) = W2 at *
    have b3 := below1 W2 (.cells #[.func (.func 29) #[] #[.pointer (some ⟨w.heap.size, 0, none⟩), .pointer (some ⟨w.heap.size + 1, 0, none⟩)], .func (.func 30) #[] #[.pointer (some ⟨w.heap.size, 0, none⟩), .pointer (some ⟨w.heap.size + 1, 0, none⟩)]] 70)
    have f0 := cell_last W2 #[.func (.func 29) #[] #[.pointer (some ⟨w.heap.size, 0, none⟩), .pointer (some ⟨w.heap.size + 1, 0, none⟩)], .func (.func 30) #[] #[.pointer (some ⟨w.heap.size, 0, none⟩), .pointer (some ⟨w.heap.size + 1, 0, none⟩)]] 70 (w.heap.size + 1 + 1) 0 e2.symm
    have f1 := cell_last W2 #[.func (.func 29) #[] #[.pointer (some ⟨w.heap.size, 0, none⟩), .pointer (some ⟨w.heap.size + 1, 0, none⟩)], .func (.func 30) #[] #[.pointer (some ⟨w.heap.size, 0, none⟩), .pointer (some ⟨w.heap.size + 1, 0, none⟩)]] 70 (w.heap.size + 1 + 1) 1 e2.symm
    have e3 : (W2.alloc (.cells #[.func (.func 29) #[] #[.pointer (some ⟨w.heap.size, 0, none⟩), .pointer (some ⟨w.heap.size + 1, 0, none⟩)], .func (.func 30) #[] #[.pointer (some ⟨w.heap.size, 0, none⟩), .pointer (some ⟨w.heap.size + 1, 0, none⟩)]] 70)).heap.size = w.heap.size + 1 + 1 + 1 := by rw [World.size_alloc, e2]
    have c0 := cell_keep c0 b3
    have q0 := cell_keep q0 b3
    have q1 := cell_keep q1 b3
    have b13 := thn b12 b3
    generalize W2.alloc (.cells #[.func (.func 29) #[] #[.pointer (some ⟨w.heap.size, 0, none⟩), .pointer (some ⟨w.heap.size + 1, 0, none⟩)], .func (.func 30) #[] #[.pointer (some ⟨w.heap.size, 0, none⟩), .pointer (some ⟨w.heap.size + 1, 0, none⟩)]] 70) = W3 at *
    have b4 := below1 W3 (.map #[] 0)
    have hm := World.ownsMap_made W3 Try.prog 3 (unitElem (H := Unit))
    rw [e3] at hm
    exact ⟨cell_keep c0 b4, cell_keep q0 b4, cell_keep q1 b4, cell_keep f0 b4, cell_keep f1 b4, hrow.below (thn b13 b4), hm, grown_below (thn b13 b4) _, hg, by omega, by omega⟩
  clear hmm hrow
  generalize (((w.alloc (.cells #[.slice (some ⟨g, 0, none⟩) n n] 26)).alloc (.cells #[.int .i64 P, .int .i64 Q] 61)).alloc (.cells #[.func (.func 29) #[] #[.pointer (some ⟨w.heap.size, 0, none⟩), .pointer (some ⟨w.heap.size + 1, 0, none⟩)], .func (.func 30) #[] #[.pointer (some ⟨w.heap.size, 0, none⟩), .pointer (some ⟨w.heap.size + 1, 0, none⟩)]] 70)).alloc (.map #[] 0) = W4 at *
  generalize w.heap.size + 1 + 1 + 1 = p3 at *
  generalize w.heap.size + 1 + 1 = p2 at *
  generalize w.heap.size + 1 = p1 at *
  have HD := Lib.hid hD
  clear hD
  have HXY := Lib.hid (And.intro hx hy)
  have c1 := HD.out.cp
  have c2 := HD.out.cq
  have h3x := HD.out.lo
  have hi0 := index0 P Q
  have hi1 := index1 P Q
  go_wp2_with fail
  clear c1 c2
  have HL1 := Lib.hid (show Kept l (stg l P Q 1).1 ∧ (stg l P Q 1).2.length ≤ 1 ∧ (stg l P Q 1).1[Q]? = some y from ⟨(rnd_kept fO_kept hx hy).1, (rnd_kept fO_kept hx hy).2, rnd_far hx hy hPQ⟩)
  go_loopw [7, 8, 9, 20] (fun _ _ _ k wr => ∃ j : Nat, j ≤ 2 ∧ k = .int .i64 j ∧ D w g n P Q w.heap.size p1 p2 p3 wr (stg l P Q j)) (fun _ _ _ k _ => 2 - (intOf k).toNat)
  case atStart => exact ⟨0, by omega, rfl, HD.out⟩
  case round =>
    obtain ⟨j, hj, rfl, hDD⟩ := hrel
    rcases (show j = 0 ∨ j = 1 ∨ j = 2 by omega) with rfl | rfl | rfl
    · have hdx : D w g n P Q w.heap.size p1 p2 p3 wr (stg l P Q 0) := hDD
      obtain ⟨m, M, u, v, hst, hu, hv, hue, hui, hvi, hve, hMl, hml⟩ : ∃ (m : List Tx) (M : List Int) (u v : Tx), stg l P Q 0 = (m, M) ∧ m[P]? = some u ∧ m[Q]? = some v ∧ 0 ≤ u.e ∧ (0 < u.i ∧ u.i ≤ 1099511627776) ∧ (0 < v.i ∧ v.i ≤ 1099511627776) ∧ 0 ≤ v.e ∧ M.length ≤ 1 ∧ m.length = n := by
        exact ⟨l, [], x, y, rfl, HXY.out.1, HXY.out.2, hx0, hxi, hyi, hy0, by simp, hn⟩
      have hnx : stg l P Q 1 = rnd fO P Q (stg l P Q 0) := rfl
      rw [hst] at hdx hnx
      clear hDD
      have HU := Lib.hid hu
      have HV := Lib.hid hv
      have HMl := Lib.hid hMl
      have HNX := Lib.hid hnx
      have hgw : g < wr.heap.size := (hdx.txn hu).2.2.2.2.2
      have hPl := (List.getElem?_eq_some_iff.1 hu).1
      have HS := Lib.hid (show (m.set P (fO u))[P]? = some (fO u) from List.getElem?_set_self hPl)
      have HSo := Lib.hid (show (m.set P (fO u))[Q]? = some v from (List.getElem?_set_ne hPQ).trans hv)
      have hb5 := below1 wr (.cells #[.int .i64 u.i, .int .i64 u.s, .int .i64 u.e, .bool u.a, .bool u.o] 35)
      have HD5 := Lib.hid (hdx.below hb5)
      have HFL := Lib.hid fun W (hd : D w g n P Q w.heap.size p1 p2 p3 W (m, M)) => flag0_any w g n P Q w.heap.size p1 p2 p3 W (m, M) hd u hu hml (by omega)
      have HHB := Lib.hid fun W => hasBoth_any (fO u) W
      have HIC := Lib.hid fun W => isCom_any u W
      have hkey : keyOf Try.prog 3 (.int .i64 u.i) = some (.int .i64 u.i) := keyOf_int_mk Try.underlying3 (WalkArith.wf_i64 (by omega))
      have hkey2 : keyOf Try.prog 3 (.int .i64 v.i) = some (.int .i64 v.i) := keyOf_int_mk Try.underlying3 (WalkArith.wf_i64 (by omega))
      have b0 := cell_last wr #[.int .i64 u.i, .int .i64 u.s, .int .i64 u.e, .bool u.a, .bool u.o] 35 wr.heap.size 0 rfl
      have b1 := cell_last wr #[.int .i64 u.i, .int .i64 u.s, .int .i64 u.e, .bool u.a, .bool u.o] 35 wr.heap.size 1 rfl
      have b2 := cell_last wr #[.int .i64 u.i, .int .i64 u.s, .int .i64 u.e, .bool u.a, .bool u.o] 35 wr.heap.size 2 rfl
      have b3 := cell_last wr #[.int .i64 u.i, .int .i64 u.s, .int .i64 u.e, .bool u.a, .bool u.o] 35 wr.heap.size 3 rfl
      have b4 := cell_last wr #[.int .i64 u.i, .int .i64 u.s, .int .i64 u.e, .bool u.a, .bool u.o] 35 wr.heap.size 4 rfl
      have k0 := hdx.cl
      obtain ⟨t0, t1, t2, t3, t4, _⟩ := hdx.txn hu
      have s1 := HD5.out.s0
      have hl0 := cell_lt k0
      have hPn : P < n := by omega
      have hPn2 : (P : Int) < (n : Int) := by omega
      have hPn3 : (P : Int) < 9223372036854775807 := by omega
      have hQl := (List.getElem?_eq_some_iff.1 hv).1
      have hQn : Q < n := by omega
      have hQn2 : (Q : Int) < (n : Int) := by omega
      have hQn3 : (Q : Int) < 9223372036854775807 := by omega
      clear hdx hu hv hst hnx hMl hml hb5 hPl hQl
      go_upto_region 7 with fail
      clear k0 t0 t1 t2 t3 t4
      generalize wr.alloc (.cells #[.int .i64 u.i, .int .i64 u.s, .int .i64 u.e, .bool u.a, .bool u.o] 35) = W5 at *
      have hl2 := cell_lt s1
      cases hB : ((fO u).a && (fO u).o)
      · have HN2 := Lib.hid (HNX.out.trans (rnd_no HU.out HV.out hB))
        rw [hB] at HHB
        clear hB
        go_wp2_with (first | (go_at_call 29; (with_reducible refine (HFL.out _ HD5.out).mono ?_); rintro e w6 ⟨rfl, hd6, hg6⟩; have HD6 := Lib.hid hd6; have a0 := cell_of_grown (p := ⟨wr.heap.size, 0, none⟩) hg6 (by show wr.heap.size ≠ g; omega) b0; have a1 := cell_of_grown (p := ⟨wr.heap.size, 1, none⟩) hg6 (by show wr.heap.size ≠ g; omega) b1; have a2 := cell_of_grown (p := ⟨wr.heap.size, 2, none⟩) hg6 (by show wr.heap.size ≠ g; omega) b2; have a3 := cell_of_grown (p := ⟨wr.heap.size, 3, none⟩) hg6 (by show wr.heap.size ≠ g; omega) b3; have a4 := cell_of_grown (p := ⟨wr.heap.size, 4, none⟩) hg6 (by show wr.heap.size ≠ g; omega) b4; have k6 := HD6.out.cl; obtain ⟨t0, t1, t2, t3, t4, hgl6⟩ := HD6.out.txn HS.out; have hz6 := cell_lt a0; clear hd6 hg6) | (go_at_call 24; (with_reducible refine (HHB.out _).mono ?_); rintro e w7 ⟨rfl, hb7⟩; have HD7 := Lib.hid (HD6.out.below hb7); have a0 := cell_keep a0 hb7; have a1 := cell_keep a1 hb7; have a2 := cell_keep a2 hb7; have a3 := cell_keep a3 hb7; have a4 := cell_keep a4 hb7; clear hb7))
        go_roundw
        case rel => exact ⟨1, by omega, by go_num, by rw [HN2.out]; exact HD7.out⟩
        case measure => simp [intOf]
      · rw [hB] at HHB
        by_cases h0 : 0 < u.e
        · have HNY := Lib.hid fun h1 => HNX.out.trans (rnd_yes HU.out HV.out hB h0 h1)
          have HNN := Lib.hid fun h1 => HNX.out.trans (rnd_none HU.out HV.out hB h0 h1)
          have hd0 : decide (0 < u.e) = true := decide_eq_true h0
          rw [hd0] at HIC
          clear hB h0 hd0
          go_upto_region 11 with (first | (go_at_call 29; (with_reducible refine (HFL.out _ HD5.out).mono ?_); rintro e w6 ⟨rfl, hd6, hg6⟩; have HD6 := Lib.hid hd6; have a0 := cell_of_grown (p := ⟨wr.heap.size, 0, none⟩) hg6 (by show wr.heap.size ≠ g; omega) b0; have a1 := cell_of_grown (p := ⟨wr.heap.size, 1, none⟩) hg6 (by show wr.heap.size ≠ g; omega) b1; have a2 := cell_of_grown (p := ⟨wr.heap.size, 2, none⟩) hg6 (by show wr.heap.size ≠ g; omega) b2; have a3 := cell_of_grown (p := ⟨wr.heap.size, 3, none⟩) hg6 (by show wr.heap.size ≠ g; omega) b3; have a4 := cell_of_grown (p := ⟨wr.heap.size, 4, none⟩) hg6 (by show wr.heap.size ≠ g; omega) b4; have k6 := HD6.out.cl; obtain ⟨t0, t1, t2, t3, t4, hgl6⟩ := HD6.out.txn HS.out; have hz6 := cell_lt a0; clear hd6 hg6) | (go_at_call 24; (with_reducible refine (HHB.out _).mono ?_); rintro e w7 ⟨rfl, hb7⟩; have HD7 := Lib.hid (HD6.out.below hb7); have a0 := cell_keep a0 hb7; have a1 := cell_keep a1 hb7; have a2 := cell_keep a2 hb7; have a3 := cell_keep a3 hb7; have a4 := cell_keep a4 hb7; clear hb7) | (go_at_call 19; (with_reducible refine (HIC.out _).mono ?_); rintro e w8 ⟨rfl, hb8⟩; have HD8 := Lib.hid (HD7.out.below hb8); have a0 := cell_keep a0 hb8; have a1 := cell_keep a1 hb8; have a2 := cell_keep a2 hb8; have a3 := cell_keep a3 hb8; have a4 := cell_keep a4 hb8; have k8 := HD8.out.cl; obtain ⟨t0, t1, t2, t3, t4, hgl8⟩ := HD8.out.txn HS.out; obtain ⟨f0, f1, f2, f3, f4⟩ := HD8.out.free HS.out; have hz8 := cell_lt a0; have o0 := HD8.out.cp; have o1 := HD8.out.cq; clear hb8))
          have hd9 : D w g n P Q w.heap.size p1 p2 p3 (((((w8.setCell ⟨g, P * 5, none⟩ (.int .i64 u.i)).setCell ⟨g, P * 5 + 1, none⟩ (.int .i64 u.s)).setCell ⟨g, P * 5 + 2, none⟩ (.int .i64 u.e)).setCell ⟨g, P * 5 + 3, none⟩ (.bool u.a)).setCell ⟨g, P * 5 + 4, none⟩ (.bool u.o)) (m, M) := by
            have h1 := HD8.out.write (grown_setCells g (txC u) (P * 5) w8) (HD8.out.row.set u (List.getElem?_eq_some_iff.1 HS.out).1)
            rw [set_back HU.out] at h1
            exact h1
          have HD9 := Lib.hid hd9
          clear hd9 HD8 HD7 HD6 a0 a1 a2 a3 a4 k6 k8 t0 t1 t2 t3 t4 f0 f1 f2 f3 f4 o0 o1 hz6 hz8 hgl6 hgl8
          generalize ((((w8.setCell ⟨g, P * 5, none⟩ (.int .i64 u.i)).setCell ⟨g, P * 5 + 1, none⟩ (.int .i64 u.s)).setCell ⟨g, P * 5 + 2, none⟩ (.int .i64 u.e)).setCell ⟨g, P * 5 + 3, none⟩ (.bool u.a)).setCell ⟨g, P * 5 + 4, none⟩ (.bool u.o) = W9 at *
          have o0 := HD9.out.cp
          have o1 := HD9.out.cq
          have k9 := HD9.out.cl
          obtain ⟨t0, t1, t2, t3, t4, hgl9⟩ := HD9.out.txn HV.out
          have hlo := cell_lt o0
          by_cases h1 : v.e = 0
          · have h1' : (v.e == 0) = true := by simpa using h1
            have HN2 := Lib.hid (HNY.out h1)
            clear h1
            go_wp2_with (at_mapUpdate; refine wpList_mapUpdate_own _ rfl _ _ _ 56 rfl 3 57 keyedI Try.underlying56 (unitElem (H := Unit)) p3 _ _ rfl HD9.out.met (show M.length < maxLen by have := HMl.out; unfold maxLen; omega) _ _ _ rfl rfl hkey2 _ [] unitElem_mk ?_; intro w9 hown9 hgrow9; have HD10 := Lib.hid (HD9.out.put (i := v.i) hown9 hgrow9); clear hown9 hgrow9)
            go_roundw
            case rel => exact ⟨1, by omega, by go_num, by rw [HN2.out]; exact HD10.out⟩
            case measure => simp [intOf]
          · have h1' : (v.e == 0) = false := by simpa using h1
            have HN2 := Lib.hid (HNN.out h1)
            clear h1
            go_wp2_with fail
            go_roundw
            case rel => exact ⟨1, by omega, by go_num, by rw [HN2.out]; exact HD9.out⟩
            case measure => simp [intOf]
        · have HN2 := Lib.hid (HNX.out.trans (rnd_act HU.out HV.out hB h0))
          have he0 : (u.e == 0) = true := by simp; omega
          have he1 : ((fO u).e == 0) = true := he0
          have hd0 : decide (0 < u.e) = false := decide_eq_false h0
          rw [hd0] at HIC
          clear hB h0 hd0
          go_wp2_with (first | (go_at_call 29; (with_reducible refine (HFL.out _ HD5.out).mono ?_); rintro e w6 ⟨rfl, hd6, hg6⟩; have HD6 := Lib.hid hd6; have a0 := cell_of_grown (p := ⟨wr.heap.size, 0, none⟩) hg6 (by show wr.heap.size ≠ g; omega) b0; have a1 := cell_of_grown (p := ⟨wr.heap.size, 1, none⟩) hg6 (by show wr.heap.size ≠ g; omega) b1; have a2 := cell_of_grown (p := ⟨wr.heap.size, 2, none⟩) hg6 (by show wr.heap.size ≠ g; omega) b2; have a3 := cell_of_grown (p := ⟨wr.heap.size, 3, none⟩) hg6 (by show wr.heap.size ≠ g; omega) b3; have a4 := cell_of_grown (p := ⟨wr.heap.size, 4, none⟩) hg6 (by show wr.heap.size ≠ g; omega) b4; have k6 := HD6.out.cl; obtain ⟨t0, t1, t2, t3, t4, hgl6⟩ := HD6.out.txn HS.out; have hz6 := cell_lt a0; clear hd6 hg6) | (go_at_call 24; (with_reducible refine (HHB.out _).mono ?_); rintro e w7 ⟨rfl, hb7⟩; have HD7 := Lib.hid (HD6.out.below hb7); have a0 := cell_keep a0 hb7; have a1 := cell_keep a1 hb7; have a2 := cell_keep a2 hb7; have a3 := cell_keep a3 hb7; have a4 := cell_keep a4 hb7; clear hb7) | (go_at_call 19; (with_reducible refine (HIC.out _).mono ?_); rintro e w8 ⟨rfl, hb8⟩; have HD8 := Lib.hid (HD7.out.below hb8); have a0 := cell_keep a0 hb8; have a1 := cell_keep a1 hb8; have a2 := cell_keep a2 hb8; have a3 := cell_keep a3 hb8; have a4 := cell_keep a4 hb8; have k8 := HD8.out.cl; obtain ⟨t0, t1, t2, t3, t4, hgl8⟩ := HD8.out.txn HS.out; obtain ⟨f0, f1, f2, f3, f4⟩ := HD8.out.free HS.out; have hz8 := cell_lt a0; have o0 := HD8.out.cp; have o1 := HD8.out.cq; clear hb8) | (at_mapUpdate; refine wpList_mapUpdate_own _ rfl _ _ _ 56 rfl 3 57 keyedI Try.underlying56 (unitElem (H := Unit)) p3 _ _ rfl HD8.out.met (show M.length < maxLen by have := HMl.out; unfold maxLen; omega) _ _ _ rfl rfl hkey _ [] unitElem_mk ?_; intro w9 hown9 hgrow9; have HD9 := Lib.hid (HD8.out.put (i := u.i) hown9 hgrow9); clear hown9 hgrow9))
          go_roundw
          case rel => exact ⟨1, by omega, by go_num, by rw [HN2.out]; exact HD9.out⟩
          case measure => simp [intOf]
    · have hdx : D w g n P Q w.heap.size p1 p2 p3 wr (stg l P Q 1) := hDD
      obtain ⟨m, M, u, v, hst, hu, hv, hue, hui, hvi, hve, hMl, hml⟩ : ∃ (m : List Tx) (M : List Int) (u v : Tx), stg l P Q 1 = (m, M) ∧ m[Q]? = some u ∧ m[P]? = some v ∧ 0 ≤ u.e ∧ (0 < u.i ∧ u.i ≤ 1099511627776) ∧ (0 < v.i ∧ v.i ≤ 1099511627776) ∧ 0 ≤ v.e ∧ M.length ≤ 1 ∧ m.length = n := by
        obtain ⟨hk, hM, hq⟩ := HL1.out
        obtain ⟨x', hx', e1, e2, e3⟩ := hk.all P x HXY.out.1
        exact ⟨_, _, y, x', rfl, hq, hx', hy0, hyi, by rw [e1]; exact hxi, by rw [e3]; exact hx0, hM, hk.len.trans hn⟩
      have hnx : stg l P Q 2 = rnd fI Q P (stg l P Q 1) := rfl
      rw [hst] at hdx hnx
      clear hDD
      have HU := Lib.hid hu
      have HV := Lib.hid hv
      have HMl := Lib.hid hMl
      have HNX := Lib.hid hnx
      have hgw : g < wr.heap.size := (hdx.txn hu).2.2.2.2.2
      have hPl := (List.getElem?_eq_some_iff.1 hu).1
      have HS := Lib.hid (show (m.set Q (fI u))[Q]? = some (fI u) from List.getElem?_set_self hPl)
      have HSo := Lib.hid (show (m.set Q (fI u))[P]? = some v from (List.getElem?_set_ne hPQ.symm).trans hv)
      have hb5 := below1 wr (.cells #[.int .i64 u.i, .int .i64 u.s, .int .i64 u.e, .bool u.a, .bool u.o] 35)
      have HD5 := Lib.hid (hdx.below hb5)
      have HFL := Lib.hid fun W (hd : D w g n P Q w.heap.size p1 p2 p3 W (m, M)) => flag1_any w g n P Q w.heap.size p1 p2 p3 W (m, M) hd u hu hml (by omega)
      have HHB := Lib.hid fun W => hasBoth_any (fI u) W
      have HIC := Lib.hid fun W => isCom_any u W
      have hkey : keyOf Try.prog 3 (.int .i64 u.i) = some (.int .i64 u.i) := keyOf_int_mk Try.underlying3 (WalkArith.wf_i64 (by omega))
      have hkey2 : keyOf Try.prog 3 (.int .i64 v.i) = some (.int .i64 v.i) := keyOf_int_mk Try.underlying3 (WalkArith.wf_i64 (by omega))
      have b0 := cell_last wr #[.int .i64 u.i, .int .i64 u.s, .int .i64 u.e, .bool u.a, .bool u.o] 35 wr.heap.size 0 rfl
      have b1 := cell_last wr #[.int .i64 u.i, .int .i64 u.s, .int .i64 u.e, .bool u.a, .bool u.o] 35 wr.heap.size 1 rfl
      have b2 := cell_last wr #[.int .i64 u.i, .int .i64 u.s, .int .i64 u.e, .bool u.a, .bool u.o] 35 wr.heap.size 2 rfl
      have b3 := cell_last wr #[.int .i64 u.i, .int .i64 u.s, .int .i64 u.e, .bool u.a, .bool u.o] 35 wr.heap.size 3 rfl
      have b4 := cell_last wr #[.int .i64 u.i, .int .i64 u.s, .int .i64 u.e, .bool u.a, .bool u.o] 35 wr.heap.size 4 rfl
      have k0 := hdx.cl
      obtain ⟨t0, t1, t2, t3, t4, _⟩ := hdx.txn hu
      have s1 := HD5.out.s1
      have hl0 := cell_lt k0
      have hPn : Q < n := by omega
      have hPn2 : (Q : Int) < (n : Int) := by omega
      have hPn3 : (Q : Int) < 9223372036854775807 := by omega
      have hQl := (List.getElem?_eq_some_iff.1 hv).1
      have hQn : P < n := by omega
      have hQn2 : (P : Int) < (n : Int) := by omega
      have hQn3 : (P : Int) < 9223372036854775807 := by omega
      clear hdx hu hv hst hnx hMl hml hb5 hPl hQl
      go_upto_region 7 with fail
      clear k0 t0 t1 t2 t3 t4
      generalize wr.alloc (.cells #[.int .i64 u.i, .int .i64 u.s, .int .i64 u.e, .bool u.a, .bool u.o] 35) = W5 at *
      have hl2 := cell_lt s1
      cases hB : ((fI u).a && (fI u).o)
      · have HN2 := Lib.hid (HNX.out.trans (rnd_no HU.out HV.out hB))
        rw [hB] at HHB
        clear hB
        go_wp2_with (first | (go_at_call 30; (with_reducible refine (HFL.out _ HD5.out).mono ?_); rintro e w6 ⟨rfl, hd6, hg6⟩; have HD6 := Lib.hid hd6; have a0 := cell_of_grown (p := ⟨wr.heap.size, 0, none⟩) hg6 (by show wr.heap.size ≠ g; omega) b0; have a1 := cell_of_grown (p := ⟨wr.heap.size, 1, none⟩) hg6 (by show wr.heap.size ≠ g; omega) b1; have a2 := cell_of_grown (p := ⟨wr.heap.size, 2, none⟩) hg6 (by show wr.heap.size ≠ g; omega) b2; have a3 := cell_of_grown (p := ⟨wr.heap.size, 3, none⟩) hg6 (by show wr.heap.size ≠ g; omega) b3; have a4 := cell_of_grown (p := ⟨wr.heap.size, 4, none⟩) hg6 (by show wr.heap.size ≠ g; omega) b4; have k6 := HD6.out.cl; obtain ⟨t0, t1, t2, t3, t4, hgl6⟩ := HD6.out.txn HS.out; have hz6 := cell_lt a0; clear hd6 hg6) | (go_at_call 24; (with_reducible refine (HHB.out _).mono ?_); rintro e w7 ⟨rfl, hb7⟩; have HD7 := Lib.hid (HD6.out.below hb7); have a0 := cell_keep a0 hb7; have a1 := cell_keep a1 hb7; have a2 := cell_keep a2 hb7; have a3 := cell_keep a3 hb7; have a4 := cell_keep a4 hb7; clear hb7))
        go_roundw
        case rel => exact ⟨2, by omega, by go_num, by rw [HN2.out]; exact HD7.out⟩
        case measure => simp [intOf]
      · rw [hB] at HHB
        by_cases h0 : 0 < u.e
        · have HNY := Lib.hid fun h1 => HNX.out.trans (rnd_yes HU.out HV.out hB h0 h1)
          have HNN := Lib.hid fun h1 => HNX.out.trans (rnd_none HU.out HV.out hB h0 h1)
          have hd0 : decide (0 < u.e) = true := decide_eq_true h0
          rw [hd0] at HIC
          clear hB h0 hd0
          go_upto_region 11 with (first | (go_at_call 30; (with_reducible refine (HFL.out _ HD5.out).mono ?_); rintro e w6 ⟨rfl, hd6, hg6⟩; have HD6 := Lib.hid hd6; have a0 := cell_of_grown (p := ⟨wr.heap.size, 0, none⟩) hg6 (by show wr.heap.size ≠ g; omega) b0; have a1 := cell_of_grown (p := ⟨wr.heap.size, 1, none⟩) hg6 (by show wr.heap.size ≠ g; omega) b1; have a2 := cell_of_grown (p := ⟨wr.heap.size, 2, none⟩) hg6 (by show wr.heap.size ≠ g; omega) b2; have a3 := cell_of_grown (p := ⟨wr.heap.size, 3, none⟩) hg6 (by show wr.heap.size ≠ g; omega) b3; have a4 := cell_of_grown (p := ⟨wr.heap.size, 4, none⟩) hg6 (by show wr.heap.size ≠ g; omega) b4; have k6 := HD6.out.cl; obtain ⟨t0, t1, t2, t3, t4, hgl6⟩ := HD6.out.txn HS.out; have hz6 := cell_lt a0; clear hd6 hg6) | (go_at_call 24; (with_reducible refine (HHB.out _).mono ?_); rintro e w7 ⟨rfl, hb7⟩; have HD7 := Lib.hid (HD6.out.below hb7); have a0 := cell_keep a0 hb7; have a1 := cell_keep a1 hb7; have a2 := cell_keep a2 hb7; have a3 := cell_keep a3 hb7; have a4 := cell_keep a4 hb7; clear hb7) | (go_at_call 19; (with_reducible refine (HIC.out _).mono ?_); rintro e w8 ⟨rfl, hb8⟩; have HD8 := Lib.hid (HD7.out.below hb8); have a0 := cell_keep a0 hb8; have a1 := cell_keep a1 hb8; have a2 := cell_keep a2 hb8; have a3 := cell_keep a3 hb8; have a4 := cell_keep a4 hb8; have k8 := HD8.out.cl; obtain ⟨t0, t1, t2, t3, t4, hgl8⟩ := HD8.out.txn HS.out; obtain ⟨f0, f1, f2, f3, f4⟩ := HD8.out.free HS.out; have hz8 := cell_lt a0; have o0 := HD8.out.cp; have o1 := HD8.out.cq; clear hb8))
          have hd9 : D w g n P Q w.heap.size p1 p2 p3 (((((w8.setCell ⟨g, Q * 5, none⟩ (.int .i64 u.i)).setCell ⟨g, Q * 5 + 1, none⟩ (.int .i64 u.s)).setCell ⟨g, Q * 5 + 2, none⟩ (.int .i64 u.e)).setCell ⟨g, Q * 5 + 3, none⟩ (.bool u.a)).setCell ⟨g, Q * 5 + 4, none⟩ (.bool u.o)) (m, M) := by
            have h1 := HD8.out.write (grown_setCells g (txC u) (Q * 5) w8) (HD8.out.row.set u (List.getElem?_eq_some_iff.1 HS.out).1)
            rw [set_back HU.out] at h1
            exact h1
          have HD9 := Lib.hid hd9
          clear hd9 HD8 HD7 HD6 a0 a1 a2 a3 a4 k6 k8 t0 t1 t2 t3 t4 f0 f1 f2 f3 f4 o0 o1 hz6 hz8 hgl6 hgl8
          generalize ((((w8.setCell ⟨g, Q * 5, none⟩ (.int .i64 u.i)).setCell ⟨g, Q * 5 + 1, none⟩ (.int .i64 u.s)).setCell ⟨g, Q * 5 + 2, none⟩ (.int .i64 u.e)).setCell ⟨g, Q * 5 + 3, none⟩ (.bool u.a)).setCell ⟨g, Q * 5 + 4, none⟩ (.bool u.o) = W9 at *
          have o0 := HD9.out.cp
          have o1 := HD9.out.cq
          have k9 := HD9.out.cl
          obtain ⟨t0, t1, t2, t3, t4, hgl9⟩ := HD9.out.txn HV.out
          have hlo := cell_lt o0
          by_cases h1 : v.e = 0
          · have h1' : (v.e == 0) = true := by simpa using h1
            have HN2 := Lib.hid (HNY.out h1)
            clear h1
            go_wp2_with (at_mapUpdate; refine wpList_mapUpdate_own _ rfl _ _ _ 56 rfl 3 57 keyedI Try.underlying56 (unitElem (H := Unit)) p3 _ _ rfl HD9.out.met (show M.length < maxLen by have := HMl.out; unfold maxLen; omega) _ _ _ rfl rfl hkey2 _ [] unitElem_mk ?_; intro w9 hown9 hgrow9; have HD10 := Lib.hid (HD9.out.put (i := v.i) hown9 hgrow9); clear hown9 hgrow9)
            go_roundw
            case rel => exact ⟨2, by omega, by go_num, by rw [HN2.out]; exact HD10.out⟩
            case measure => simp [intOf]
          · have h1' : (v.e == 0) = false := by simpa using h1
            have HN2 := Lib.hid (HNN.out h1)
            clear h1
            go_wp2_with fail
            go_roundw
            case rel => exact ⟨2, by omega, by go_num, by rw [HN2.out]; exact HD9.out⟩
            case measure => simp [intOf]
        · have HN2 := Lib.hid (HNX.out.trans (rnd_act HU.out HV.out hB h0))
          have he0 : (u.e == 0) = true := by simp; omega
          have he1 : ((fI u).e == 0) = true := he0
          have hd0 : decide (0 < u.e) = false := decide_eq_false h0
          rw [hd0] at HIC
          clear hB h0 hd0
          go_wp2_with (first | (go_at_call 30; (with_reducible refine (HFL.out _ HD5.out).mono ?_); rintro e w6 ⟨rfl, hd6, hg6⟩; have HD6 := Lib.hid hd6; have a0 := cell_of_grown (p := ⟨wr.heap.size, 0, none⟩) hg6 (by show wr.heap.size ≠ g; omega) b0; have a1 := cell_of_grown (p := ⟨wr.heap.size, 1, none⟩) hg6 (by show wr.heap.size ≠ g; omega) b1; have a2 := cell_of_grown (p := ⟨wr.heap.size, 2, none⟩) hg6 (by show wr.heap.size ≠ g; omega) b2; have a3 := cell_of_grown (p := ⟨wr.heap.size, 3, none⟩) hg6 (by show wr.heap.size ≠ g; omega) b3; have a4 := cell_of_grown (p := ⟨wr.heap.size, 4, none⟩) hg6 (by show wr.heap.size ≠ g; omega) b4; have k6 := HD6.out.cl; obtain ⟨t0, t1, t2, t3, t4, hgl6⟩ := HD6.out.txn HS.out; have hz6 := cell_lt a0; clear hd6 hg6) | (go_at_call 24; (with_reducible refine (HHB.out _).mono ?_); rintro e w7 ⟨rfl, hb7⟩; have HD7 := Lib.hid (HD6.out.below hb7); have a0 := cell_keep a0 hb7; have a1 := cell_keep a1 hb7; have a2 := cell_keep a2 hb7; have a3 := cell_keep a3 hb7; have a4 := cell_keep a4 hb7; clear hb7) | (go_at_call 19; (with_reducible refine (HIC.out _).mono ?_); rintro e w8 ⟨rfl, hb8⟩; have HD8 := Lib.hid (HD7.out.below hb8); have a0 := cell_keep a0 hb8; have a1 := cell_keep a1 hb8; have a2 := cell_keep a2 hb8; have a3 := cell_keep a3 hb8; have a4 := cell_keep a4 hb8; have k8 := HD8.out.cl; obtain ⟨t0, t1, t2, t3, t4, hgl8⟩ := HD8.out.txn HS.out; obtain ⟨f0, f1, f2, f3, f4⟩ := HD8.out.free HS.out; have hz8 := cell_lt a0; have o0 := HD8.out.cp; have o1 := HD8.out.cq; clear hb8) | (at_mapUpdate; refine wpList_mapUpdate_own _ rfl _ _ _ 56 rfl 3 57 keyedI Try.underlying56 (unitElem (H := Unit)) p3 _ _ rfl HD8.out.met (show M.length < maxLen by have := HMl.out; unfold maxLen; omega) _ _ _ rfl rfl hkey _ [] unitElem_mk ?_; intro w9 hown9 hgrow9; have HD9 := Lib.hid (HD8.out.put (i := u.i) hown9 hgrow9); clear hown9 hgrow9))
          go_roundw
          case rel => exact ⟨2, by omega, by go_num, by rw [HN2.out]; exact HD9.out⟩
          case measure => simp [intOf]
    · have hDD2 : D w g n P Q w.heap.size p1 p2 p3 wr (stg l P Q 2) := hDD
      have hst2 : ∃ x2 y2, (stg l P Q 2).1[P]? = some x2 ∧ (stg l P Q 2).1[Q]? = some y2 ∧ x2.i = x.i ∧ y2.i = y.i := by
        obtain ⟨hk, hM, hq⟩ := HL1.out
        obtain ⟨x', hx', e1, e2, e3⟩ := hk.all P x HXY.out.1
        have hk2 := (rnd_kept (f := fI) fI_kept (M := (stg l P Q 1).2) hq hx').1
        have e : stg l P Q 2 = rnd fI Q P ((stg l P Q 1).1, (stg l P Q 1).2) := rfl
        rw [← e] at hk2
        obtain ⟨x2, hx2, g1, _⟩ := hk2.all P x' hx'
        obtain ⟨y2, hy2, g2, _⟩ := hk2.all Q y hq
        exact ⟨x2, y2, hx2, hy2, g1.trans e1, g2⟩
      have hfin : draR l P Q x y = ((stg l P Q 2).1, idsOf x y (stg l P Q 2).2) := rfl
      have HFIN := Lib.hid hfin
      clear hDD hfin HL1
      obtain ⟨x2, y2, hx2, hy2, ex, ey⟩ := hst2
      generalize stg l P Q 2 = Z at *
      obtain ⟨m, M⟩ := Z
      have HX2 := Lib.hid hx2
      have HY2 := Lib.hid hy2
      have HDF := Lib.hid hDD2
      clear hx2 hy2 hDD2 HD HXY hx hy
      have k0 := HDF.out.cl
      have o0 := HDF.out.cp
      have o1 := HDF.out.cq
      go_wp2_with fail
      generalize hwr : wr = W20 at *
      clear hwr k0 o0 o1
      go_loopw [10, 12, 13, 14, 63] (fun v _ _ _ k wx => ∃ j : Nat, j ≤ 2 ∧ k = .int .i64 j ∧ wx.ownsRow w.heap.size 3 1 v (idsAt x y M j).length (ints (idsAt x y M j)) ∧ Far v p1 p2 p3 w.heap.size ∧ D w g n P Q w.heap.size p1 p2 p3 wx (m, M)) (fun _ _ _ _ k _ => 2 - (intOf k).toNat)
      case atStart => exact ⟨0, by omega, rfl, World.ownsRow_nil _ _ _ _, Far.nil, HDF.out⟩
      case round =>
        obtain ⟨j, hj, rfl, hO, hF, hDX⟩ := hrel
        have HO := Lib.hid hO
        have HF := Lib.hid hF
        have HD2 := Lib.hid hDX
        clear hO hF
        have k0 := hDX.cl
        have hl0 := cell_lt k0
        rcases (show j = 0 ∨ j = 1 ∨ j = 2 by omega) with rfl | rfl | rfl
        · obtain ⟨u, hu, hui⟩ : ∃ u, m[P]? = some u ∧ u.i = x.i := ⟨_, HX2.out, ex⟩
          obtain ⟨t0, t1, t2, t3, t4, hgl⟩ := hDX.txn hu
          have hul := (List.getElem?_eq_some_iff.1 hu).1
          have hkey : keyOf Try.prog 3 (.int .i64 u.i) = some (.int .i64 u.i) := keyOf_int_mk Try.underlying3 (WalkArith.wf_i64 (by omega))
          have hhas := mapD_has M u.i
          have HMET := Lib.hid (show IsSet wr p3 M from hDX.met)
          have hPn : P < n := by omega
          have hPn2 : (P : Int) < (n : Int) := by omega
          have hPn3 : (P : Int) < 9223372036854775807 := by omega
          have HD3 := Lib.hid (hDX.below (below1 wr (.cells #[] 57)))
          have HO3 := Lib.hid (HO.out.alloc (.cells #[] 57))
          have HFEW := Lib.hid (ids_few x y M 0)
          clear hDX
          have HUI := Lib.hid hui
          clear hui
          by_cases hin : x.i ∈ M
          · have e := ids1_yes (x := x) (y := y) hin
            have HE := Lib.hid e
            replace hhas := hhas.trans (decide_eq_true (show u.i ∈ M by rw [HUI.out]; exact hin))
            clear e hin
            go_upto_region 21 with (at_lookup; refine wpList_lookup_own_unit _ rfl _ _ 56 rfl 3 57 keyedI Try.underlying56 (zeroU _) p3 _ _ rfl HMET.out _ _ rfl hkey ?_; rw [hhas])
            clear k0 t0 t1 t2 t3 t4 hgl hl0
            generalize wr.alloc (.cells #[] 57) = W3 at *
            have k0 := HD3.out.cl
            have hl0 := cell_lt k0
            obtain ⟨t0, t1, t2, t3, t4, hgl⟩ := HD3.out.txn hu
            have HD4 := Lib.hid (HD3.out.below (below1 W3 (.cells #[.int .i64 u.i] 3)))
            have HO4 := Lib.hid (HO3.out.alloc (.cells #[.int .i64 u.i] 3))
            have HWS := Lib.hid HD4.out.own.size
            have HP0 := Lib.hid (cell_lt HD4.out.cl)
            have HP1 := Lib.hid (cell_lt HD4.out.cp)
            have HP2 := Lib.hid (cell_lt HD4.out.s0)
            have HP3 := Lib.hid (World.ownsMap.lt HD4.out.met)
            go_wp2_with (at_builtin; refine wpList_append_own_at _ rfl _ _ 37 rfl w.heap.size 3 i0 (.int .i64 0) 1 8 Try.underlying37 hi hz0 hz1 hz2 rfl (by decide) _ _ _ rfl HO4.out ⟨W3.heap.size, 0, none⟩ 1 1 (ints [u.i]) rfl rfl (int_news W3 u.i) (ints_one _) (by have := HFEW.out; unfold maxLen; omega) (by have := HFEW.out; omega) HWS.out ?_; intro v5 w5 hown5 hg5 _ hn5; have HD5 := Lib.hid (HD4.out.far (v := u10) hg5 HF.out (fun k hk => (HO4.out.lt k hk).1)); have HO5 := Lib.hid hown5; have HF5 := Lib.hid (HF.out.next hn5 HP1.out HP2.out HP3.out HP0.out); clear hown5 hg5 hn5)
            go_roundw
            case rel => exact ⟨1, by omega, by go_num, by rw [HE.out, List.length_append, ints_app, ← HUI.out]; exact HO5.out, HF5.out, HD5.out⟩
            case measure => simp [intOf]
          · have e := ids1_no (x := x) (y := y) hin
            have HE := Lib.hid e
            replace hhas := hhas.trans (decide_eq_false (show ¬ u.i ∈ M by rw [HUI.out]; exact hin))
            clear e hin
            go_wp2_with (at_lookup; refine wpList_lookup_own_unit _ rfl _ _ 56 rfl 3 57 keyedI Try.underlying56 (zeroU _) p3 _ _ rfl HMET.out _ _ rfl hkey ?_; rw [hhas])
            go_roundw
            case rel => exact ⟨1, by omega, by go_num, by rw [HE.out]; exact HO3.out, HF.out, HD3.out⟩
            case measure => simp [intOf]
        · obtain ⟨u, hu, hui⟩ : ∃ u, m[Q]? = some u ∧ u.i = y.i := ⟨_, HY2.out, ey⟩
          obtain ⟨t0, t1, t2, t3, t4, hgl⟩ := hDX.txn hu
          have hul := (List.getElem?_eq_some_iff.1 hu).1
          have hkey : keyOf Try.prog 3 (.int .i64 u.i) = some (.int .i64 u.i) := keyOf_int_mk Try.underlying3 (WalkArith.wf_i64 (by omega))
          have hhas := mapD_has M u.i
          have HMET := Lib.hid (show IsSet wr p3 M from hDX.met)
          have hPn : Q < n := by omega
          have hPn2 : (Q : Int) < (n : Int) := by omega
          have hPn3 : (Q : Int) < 9223372036854775807 := by omega
          have HD3 := Lib.hid (hDX.below (below1 wr (.cells #[] 57)))
          have HO3 := Lib.hid (HO.out.alloc (.cells #[] 57))
          have HFEW := Lib.hid (ids_few x y M 1)
          clear hDX
          have HUI := Lib.hid hui
          clear hui
          by_cases hin : y.i ∈ M
          · have e := ids2_yes (x := x) (y := y) hin
            have HE := Lib.hid e
            replace hhas := hhas.trans (decide_eq_true (show u.i ∈ M by rw [HUI.out]; exact hin))
            clear e hin
            go_upto_region 21 with (at_lookup; refine wpList_lookup_own_unit _ rfl _ _ 56 rfl 3 57 keyedI Try.underlying56 (zeroU _) p3 _ _ rfl HMET.out _ _ rfl hkey ?_; rw [hhas])
            clear k0 t0 t1 t2 t3 t4 hgl hl0
            generalize wr.alloc (.cells #[] 57) = W3 at *
            have k0 := HD3.out.cl
            have hl0 := cell_lt k0
            obtain ⟨t0, t1, t2, t3, t4, hgl⟩ := HD3.out.txn hu
            have HD4 := Lib.hid (HD3.out.below (below1 W3 (.cells #[.int .i64 u.i] 3)))
            have HO4 := Lib.hid (HO3.out.alloc (.cells #[.int .i64 u.i] 3))
            have HWS := Lib.hid HD4.out.own.size
            have HP0 := Lib.hid (cell_lt HD4.out.cl)
            have HP1 := Lib.hid (cell_lt HD4.out.cp)
            have HP2 := Lib.hid (cell_lt HD4.out.s0)
            have HP3 := Lib.hid (World.ownsMap.lt HD4.out.met)
            go_wp2_with (at_builtin; refine wpList_append_own_at _ rfl _ _ 37 rfl w.heap.size 3 i0 (.int .i64 0) 1 8 Try.underlying37 hi hz0 hz1 hz2 rfl (by decide) _ _ _ rfl HO4.out ⟨W3.heap.size, 0, none⟩ 1 1 (ints [u.i]) rfl rfl (int_news W3 u.i) (ints_one _) (by have := HFEW.out; unfold maxLen; omega) (by have := HFEW.out; omega) HWS.out ?_; intro v5 w5 hown5 hg5 _ hn5; have HD5 := Lib.hid (HD4.out.far (v := u10) hg5 HF.out (fun k hk => (HO4.out.lt k hk).1)); have HO5 := Lib.hid hown5; have HF5 := Lib.hid (HF.out.next hn5 HP1.out HP2.out HP3.out HP0.out); clear hown5 hg5 hn5)
            go_roundw
            case rel => exact ⟨2, by omega, by go_num, by rw [HE.out, List.length_append, ints_app, ← HUI.out]; exact HO5.out, HF5.out, HD5.out⟩
            case measure => simp [intOf]
          · have e := ids2_no (x := x) (y := y) hin
            have HE := Lib.hid e
            replace hhas := hhas.trans (decide_eq_false (show ¬ u.i ∈ M by rw [HUI.out]; exact hin))
            clear e hin
            go_wp2_with (at_lookup; refine wpList_lookup_own_unit _ rfl _ _ 56 rfl 3 57 keyedI Try.underlying56 (zeroU _) p3 _ _ rfl HMET.out _ _ rfl hkey ?_; rw [hhas])
            go_roundw
            case rel => exact ⟨2, by omega, by go_num, by rw [HE.out]; exact HO3.out, HF.out, HD3.out⟩
            case measure => simp [intOf]
        · have ho := HO.out
          have e2 : idsAt x y M 2 = idsOf x y M := rfl
          rw [e2] at ho
          have HO2 := Lib.hid ho
          clear ho e2
          go_wp2_with fail
          go_ret
          exact ⟨_, rfl, by rw [HFIN.out]; exact HO2.out, by rw [HFIN.out]; exact HD2.out.row, HD2.out.own⟩
end Go.Proofs.Ytlcmpngjmmbkcaa
