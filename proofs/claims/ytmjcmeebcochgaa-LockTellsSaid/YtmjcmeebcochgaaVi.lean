/- What asOne of package lock makes of a list, by each of the two tests: the walks. Conditions: a list of at most 512 locks that rise and are read in memory. -/
import Derived.Test.YtmjcmeebcochgaaVh
import Derived.Test.YtmjcmeebcochgaaVg
import Derived.Lib.MinMaxS
namespace Go.Proofs.Ytmjcmeebcochgaa
open Go.RowKit Go.Sort Go.Maps
set_option linter.unusedSimpArgs false
set_option linter.unusedVariables false

theorem own_set {w : World} {B : Nat} {v : Value} {n : Nat} {xs : List Value} (h : w.ownsRow B 34 3 v n xs) {g : Nat} (hg : g < B) (o : Nat) (u : Value) : (w.setCell ⟨g, o, none⟩ u).ownsRow B 34 3 v n xs :=
  h.kept (grown_setCell w g o u) (.inr fun e => by have := (h.lt g e).1; omega)
theorem Two.set {w : World} {B : Nat} {m o : Value} {a b : List Lk} (h : Two w B m o a b) {g : Nat} (hg : g < B) (k : Nat) (u : Value) : Two (w.setCell ⟨g, k, none⟩ u) B m o a b :=
  ⟨own_set h.m_own hg k u, own_set h.o_own hg k u, h.apt⟩
theorem own_base {w : World} {B B' : Nat} {e : TypeId} {k : Nat} {v : Value} {n : Nat} {xs : List Value} (h : w.ownsRow B e k v n xs) (hb : B' ≤ B) : w.ownsRow B' e k v n xs := by
  refine ⟨h.1, ?_⟩
  rcases h.2 with hn | ⟨g, cap, cur, rfl, h1, h2⟩
  · exact .inl hn
  · exact .inr ⟨g, cap, cur, rfl, Nat.le_trans hb h1, h2⟩
theorem hull_step {x : Lk} {l : List Lk} {j : Nat} (hj : j < l.length) : hull x (l.take (j + 1)) = wid (hull x (l.take j)) l[j] := by
  unfold hull
  rw [List.take_succ_eq_append_getElem hj, List.foldl_append]
  rfl
/-- A box of a lock that may be written. -/
structure Box (w : World) (g : Nat) (x : Lk) : Prop where
  cells : Cell3 w ⟨g, 0, none⟩ x
  free : ∀ o, w.frozen? ⟨g, o, none⟩ = false
theorem Box.lo {w : World} {g : Nat} {x : Lk} (h : Box w g x) (k : Key) : Box (w.setCell ⟨g, 1, none⟩ (.string k.s)) g ⟨x.t, k, x.hi⟩ :=
  ⟨⟨(World.cell?_setCell_other w ⟨g, 1, none⟩ ⟨g, 0, none⟩ _ (by simp)).trans h.cells.1, World.cell?_setCell_same w ⟨g, 1, none⟩ _ (by simpa using h.cells.2.1), (World.cell?_setCell_other w ⟨g, 1, none⟩ ⟨g, 0 + 2, none⟩ _ (by simp)).trans h.cells.2.2⟩, fun o => by rw [World.frozen?_setCell]; exact h.free o⟩
theorem Box.hi {w : World} {g : Nat} {x : Lk} (h : Box w g x) (k : Key) : Box (w.setCell ⟨g, 2, none⟩ (.string k.s)) g ⟨x.t, x.lo, k⟩ :=
  ⟨⟨(World.cell?_setCell_other w ⟨g, 2, none⟩ ⟨g, 0, none⟩ _ (by simp)).trans h.cells.1, (World.cell?_setCell_other w ⟨g, 2, none⟩ ⟨g, 0 + 1, none⟩ _ (by simp)).trans h.cells.2.1, World.cell?_setCell_same w ⟨g, 2, none⟩ _ (by simpa using h.cells.2.2)⟩, fun o => by rw [World.frozen?_setCell]; exact h.free o⟩
theorem Box.below {w w' : World} {g : Nat} {x : Lk} (h : Box w g x) (hb : Below w.heap.size w w') : Box w' g x :=
  ⟨h.cells.below hb, fun o => (hb.frozen (p := ⟨g, o, none⟩) h.cells.lt).trans (h.free o)⟩
theorem Box.other {w : World} {g : Nat} {x : Lk} (h : Box w g x) {k : Nat} (hk : k ≠ g) (o : Nat) (u : Value) : Box (w.setCell ⟨k, o, none⟩ u) g x :=
  ⟨⟨(World.cell?_setCell_other w ⟨k, o, none⟩ ⟨g, 0, none⟩ _ (by simp [hk])).trans h.cells.1, (World.cell?_setCell_other w ⟨k, o, none⟩ ⟨g, 0 + 1, none⟩ _ (by simp [hk])).trans h.cells.2.1, (World.cell?_setCell_other w ⟨k, o, none⟩ ⟨g, 0 + 2, none⟩ _ (by simp [hk])).trans h.cells.2.2⟩, fun o' => by rw [World.frozen?_setCell]; exact h.free o'⟩
theorem Box.three {w : World} {g : Nat} {x : Lk} (h : Box w g x) : w.cell? ⟨g, 0, none⟩ = some (.int .i64 x.t) ∧ w.cell? ⟨g, 1, none⟩ = some (.string x.lo.s) ∧ w.cell? ⟨g, 2, none⟩ = some (.string x.hi.s) := ⟨h.cells.1, by simpa using h.cells.2.1, by simpa using h.cells.2.2⟩
theorem minS_eq (x v : Key) : Lib.minS x.s v.s = (if v < x then v else x).s := by
  have h1 : x < v ↔ x.s.data.toList < v.s.data.toList := by rw [lt_def, ByteArray.toList_eq, ByteArray.toList_eq]
  have h2 : x = v ↔ x.s.data.toList = v.s.data.toList := by rw [← key_eq, ByteArray.toList_eq, ByteArray.toList_eq]
  unfold Lib.minS
  by_cases hc : v < x
  · rw [if_neg (by rw [← h1, ← h2]; grind), if_pos hc]
  · rw [if_pos (by rw [← h1, ← h2]; grind), if_neg hc]
theorem Box.new (w : World) (x : Lk) : Box (w.alloc (.cells #[.int .i64 x.t, .string x.lo.s, .string x.hi.s] 34)) w.heap.size x :=
  ⟨⟨cell_last w _ _ _ 0 rfl, cell_last w _ _ _ 1 rfl, cell_last w _ _ _ 2 rfl⟩, fun o => World.frozen?_alloc_at (w := w) #[.int .i64 x.t, .string x.lo.s, .string x.hi.s] _ w.heap.size o rfl⟩
/-- What asOne answers: a list of the call's own. -/
def OneX (m : List Lk) (w : World) (e : Ending) (w' : World) : Prop := ∃ v, e = .returned v ∧ w'.ownsRow w.heap.size 34 3 v m.length (lks m) ∧ Below w.heap.size w w'
set_option maxRecDepth 100000 in
set_option maxHeartbeats 8000000 in
theorem asOne_own (o0 : Int) (y : Lk) (q : Addr) (A : Option Addr) (n c : Nat) (l : List Lk) (w : World) (hr : Rd w A n c l) (hn : n ≤ 512) (hs : l.Pairwise ltL) (hc : w.cell? q = some (.int .i64 o0)) :
    Calls Try.prog 30 #[.slice A n c, .agg #[.int .i64 y.t, .string y.lo.s, .string y.hi.s], .func (.func 52) #[] #[.pointer (some q)]] w (OneX (asOne l y (ownB o0)) w) := by
  have hl := hr.len
  subst hl
  have hb0 := below1 w (.cells #[.int .i64 y.t, .string y.lo.s, .string y.hi.s] 34)
  have hx0 := Box.new w y
  have hgz : w.heap.size < (w.alloc (.cells #[.int .i64 y.t, .string y.lo.s, .string y.hi.s] 34)).heap.size := by simp
  have HPT := Lib.hid (parted_own o0 q A l.length c l _ (hr.below hb0) (by omega) (cell_keep hc hb0))
  have hfo : (l.filter fun a => !(ownB o0) a).Pairwise ltL := hs.filter _
  have hm1 : (l.filter (ownB o0)).length ≤ 512 := Nat.le_trans (List.length_filter_le _ _) hn
  have hm2 : (l.filter fun a => !(ownB o0) a).length ≤ 512 := Nat.le_trans (List.length_filter_le _ _) hn
  have HAO : Hid (asOne l y (ownB o0) = ins (l.filter fun a => !(ownB o0) a) (hull y (l.filter (ownB o0)))) := Lib.hid rfl
  rw [HAO.out]
  clear HAO hr hc hs
  unfold PartX at HPT
  generalize l.filter (ownB o0) = M at *
  generalize (l.filter fun a => !(ownB o0) a) = O at *
  go_enter Try.func30, Try.ntmps30
  go_upto_region 1 with fail
  generalize w.alloc (.cells #[.int .i64 y.t, .string y.lo.s, .string y.hi.s] 34) = w0 at HPT hb0 hx0 hgz ⊢
  generalize hgs : w.heap.size = gs at hx0 hgz ⊢
  have HB0 := Lib.hid hb0
  have HX0 := Lib.hid hx0
  have HGS := Lib.hid hgs
  have HGZ := Lib.hid hgz
  have HFO := Lib.hid hfo
  have HM1 := Lib.hid hm1
  have HM2 := Lib.hid hm2
  clear hb0 hx0 hgs hgz hfo hm1 hm2
  go_upto_region 2 with (first | (go_at_call 40; (with_reducible refine HPT.out.mono ?_); rintro e w1 ⟨m, o, rfl, h2, hb⟩; have H2 := Lib.hid h2; have HB1 := Lib.hid (thn HB0.out hb); have HX1 := Lib.hid (HX0.out.below hb); have HZ1 := Lib.hid (Nat.lt_of_lt_of_le HGZ.out hb.size); have HZW1 := Lib.hid hb.size; clear h2 hb))
  obtain ⟨A2, c2, rfl, hr2⟩ := Rd.of_own (l := M) H2.out.m_own
  have HL2 := Lib.hid hr2.len
  have hcap : c2 ≤ 9223372036854775807 := hr2.cap
  clear hr2
  go_wp2
  go_loopw [10, 21] (fun _ i wr => ∃ j : Nat, j ≤ M.length ∧ i = .int .i64 j ∧ Box wr gs (hull y (M.take j)) ∧ Two wr w0.heap.size (.slice A2 M.length c2) o M O ∧ (gs < wr.heap.size ∧ w0.heap.size ≤ wr.heap.size) ∧ Below w.heap.size w wr) (fun _ i _ => M.length - (intOf i).toNat)
  case atStart => exact ⟨0, by omega, rfl, HX1.out, H2.out, ⟨HZ1.out, HZW1.out⟩, HB1.out⟩
  case round =>
    obtain ⟨j, hj, rfl, hX, hT, ⟨hz, hzw⟩, hB⟩ := hrel
    have HB := Lib.hid hB
    have HX := Lib.hid hX
    have HT := Lib.hid hT
    have HZ := Lib.hid hz
    have HZW := Lib.hid hzw
    have hMl := HM1.out
    clear hB hX hT hz hzw HB1 HX1 HZ1 HZW1 H2 HPT HX0
    by_cases hlt : j < M.length
    · obtain ⟨A3, c3, e3, hr3⟩ := Rd.of_own (l := M) HT.out.m_own
      injection e3 with e3 _ e4
      subst e3 e4
      obtain ⟨ad, rfl, k0, k1, k2⟩ := hr3.at_ hlt
      clear hr3
      have HST := Lib.hid (hull_step (x := y) hlt)
      generalize hull y (M.take j) = x at *
      generalize M[j] = v at *
      have hq0 := cell_lt k0
      rw [add_block] at hq0
      have HB1 := Lib.hid (thn HB.out (below1 wr (.cells #[.int .i64 v.t, .string v.lo.s, .string v.hi.s] 34)))
      have HX1 := Lib.hid (HX.out.below (below1 wr (.cells #[.int .i64 v.t, .string v.lo.s, .string v.hi.s] 34)))
      have HT1 := Lib.hid (HT.out.below (below1 wr (.cells #[.int .i64 v.t, .string v.lo.s, .string v.hi.s] 34)))
      have HV1 := Lib.hid (Box.new wr v)
      have HZ1 := Lib.hid (show gs < (wr.alloc (.cells #[.int .i64 v.t, .string v.lo.s, .string v.hi.s] 34)).heap.size by have := HZ.out; simp; omega)
      have HZW1 := Lib.hid (show w0.heap.size ≤ (wr.alloc (.cells #[.int .i64 v.t, .string v.lo.s, .string v.hi.s] 34)).heap.size by have := HZW.out; simp; omega)
      have HNE := Lib.hid (show wr.heap.size ≠ gs by have := HZ.out; omega)
      go_upto_region 5 with fail
      clear k0 k1 k2 hq0 HX HT HB HZ HZW
      generalize wr.alloc (.cells #[.int .i64 v.t, .string v.lo.s, .string v.hi.s] 34) = W1 at *
      generalize wr.heap.size = gv at *
      obtain ⟨x0, x1, x2⟩ := HX1.out.three
      obtain ⟨v0, v1, v2⟩ := HV1.out.three
      have f1 := HX1.out.free 1
      have hmin : ∀ ts t W, (Builtin.min_ ts t #[.string x.lo.s, .string v.lo.s]).run Try.prog W = .ok (.string (if v.lo < x.lo then v.lo else x.lo).s) W := fun ts t W => by rw [Lib.run_min_strs, minS_eq]
      have HWD : Hid (wid x v = ⟨x.t, if v.lo < x.lo then v.lo else x.lo, if 0 < ordE v.hi x.hi then v.hi else x.hi⟩) := Lib.hid rfl
      generalize (if v.lo < x.lo then v.lo else x.lo) = K at hmin HWD
      go_upto_region 6 with fail
      clear hmin x0 x1 x2 v0 v1 v2 f1
      have HX2 := Lib.hid (HX1.out.lo K)
      have HV2 := Lib.hid (HV1.out.other HNE.out.symm 1 (.string K.s))
      have HT2 := Lib.hid (HT1.out.set HGZ.out 1 (.string K.s))
      have HB2 := Lib.hid (HB1.out.setCell (p := ⟨gs, 1, none⟩) (by have := HGS.out; simp; omega) (.string K.s))
      have HZ2 := Lib.hid (show gs < (W1.setCell ⟨gs, 1, none⟩ (.string K.s)).heap.size by have := HZ1.out; simpa using this)
      have HZW2 := Lib.hid (show w0.heap.size ≤ (W1.setCell ⟨gs, 1, none⟩ (.string K.s)).heap.size by have := HZW1.out; simpa using this)
      clear HX1 HV1 HT1 HB1 HZ1 HZW1
      generalize W1.setCell ⟨gs, 1, none⟩ (.string K.s) = W2 at *
      obtain ⟨x0, x1, x2⟩ := HX2.out.three
      obtain ⟨v0, v1, v2⟩ := HV2.out.three
      have f2 := HX2.out.free 2
      simp only at x0 x1 x2
      have HOR := Lib.hid fun W => order_any v.hi x.hi W
      generalize ordE v.hi x.hi = R at *
      by_cases hR : 0 < R
      · have HWD2 : Hid (wid x v = ⟨x.t, K, v.hi⟩) := Lib.hid (by rw [HWD.out, if_pos hR])
        clear HWD
        go_wp2_with (go_at_call 45; (with_reducible refine (HOR.out _).mono ?_); rintro e w3 ⟨rfl, rfl⟩)
        go_roundw
        case rel => exact ⟨j + 1, hlt, by go_num, by rw [HST.out, HWD2.out]; exact HX2.out.hi v.hi, HT2.out.set HGZ.out 2 (.string v.hi.s), ⟨by have := HZ2.out; simpa using this, by have := HZW2.out; simpa using this⟩, HB2.out.setCell (p := ⟨gs, 2, none⟩) (by have := HGS.out; simp; omega) (.string v.hi.s)⟩
        case measure => simp [intOf]; omega
      · have HWD2 : Hid (wid x v = ⟨x.t, K, x.hi⟩) := Lib.hid (by rw [HWD.out, if_neg hR])
        clear HWD
        go_wp2_with (go_at_call 45; (with_reducible refine (HOR.out _).mono ?_); rintro e w3 ⟨rfl, rfl⟩)
        go_roundw
        case rel => exact ⟨j + 1, hlt, by go_num, by rw [HST.out, HWD2.out]; exact HX2.out, HT2.out, ⟨HZ2.out, HZW2.out⟩, HB2.out⟩
        case measure => simp [intOf]; omega
    · obtain rfl : j = M.length := by omega
      rw [List.take_length] at HX
      generalize hull y M = x at *
      obtain ⟨A4, c4, rfl, hr4⟩ := Rd.of_own (l := O) HT.out.o_own
      have HRO := Lib.hid hr4
      obtain ⟨x0, x1, x2⟩ := HX.out.three
      have HSE := Lib.hid fun W (hb : Below wr.heap.size wr W) => search_any x A4 O.length c4 O W (hr4.below hb) (by have := HM2.out; omega) HFO.out
      have HPL := Lib.hid (pos_le O x)
      have HIN : Hid (ins O x = O.take (pos O x) ++ x :: O.drop (pos O x)) := Lib.hid rfl
      have HIL := Lib.hid (ins_len O x)
      generalize pos O x = P at *
      clear hr4 HIL
      go_upto_region 10 with (first
        | (go_at_call 47; (with_reducible refine (HSE.out _ (Below.refl _ _)).mono ?_); rintro e w5 ⟨b, rfl, hb⟩; have HX5 := Lib.hid (HX.out.below hb); have HT5 := Lib.hid (HT.out.below hb); have HB5 := Lib.hid (thn HB.out hb); have HZ5 := Lib.hid (Nat.le_trans HZW.out hb.size); clear hb))
      obtain ⟨y0, y1, y2⟩ := HX5.out.three
      have hz5 : w0.heap.size ≤ w5.heap.size := HZ5.out
      have HW6 := Lib.hid (insert_any O.length (by have := HM2.out; omega) (w5.alloc (.cells #[.int .i64 x.t, .string x.lo.s, .string x.hi.s] 34)) w0.heap.size P (.slice A4 O.length c4) O x w5.heap.size rfl HPL.out (HT5.out.o_own.alloc _) (by simp; omega) (heap_alloc_new w5 _) (fun e => by have := (HT5.out.o_own.lt _ e).2; omega))
      have HB6 := Lib.hid (thn HB5.out (below1 w5 (.cells #[.int .i64 x.t, .string x.lo.s, .string x.hi.s] 34)))
      go_wp2_with (first
        | (go_at_call 48; (with_reducible refine HW6.out.mono ?_); rintro e w7 ⟨v7, rfl, ho7, hg7⟩; have HO7 := Lib.hid ho7; have HB7 := Lib.hid (HB6.out.grown hg7 HB6.out.size (fun k hk => Nat.le_trans HB0.out.size (HT5.out.o_own.lt k hk).1)); clear ho7 hg7))
      go_ret
      exact ⟨v7, rfl, by rw [HIN.out]; exact own_base HO7.out HB0.out.size, HB7.out⟩
set_option maxRecDepth 100000 in
set_option maxHeartbeats 8000000 in
theorem asOne_tou (o0 : Lk) (y : Lk) (q : Addr) (A : Option Addr) (n c : Nat) (l : List Lk) (w : World) (hr : Rd w A n c l) (hn : n ≤ 512) (hs : l.Pairwise ltL) (hc : Cell3 w q o0) :
    Calls Try.prog 30 #[.slice A n c, .agg #[.int .i64 y.t, .string y.lo.s, .string y.hi.s], .func (.func 49) #[] #[.pointer (some q)]] w (OneX (asOne l y (touB o0)) w) := by
  have hl := hr.len
  subst hl
  have hb0 := below1 w (.cells #[.int .i64 y.t, .string y.lo.s, .string y.hi.s] 34)
  have hx0 := Box.new w y
  have hgz : w.heap.size < (w.alloc (.cells #[.int .i64 y.t, .string y.lo.s, .string y.hi.s] 34)).heap.size := by simp
  have HPT := Lib.hid (parted_tou o0 q A l.length c l _ (hr.below hb0) (by omega) (hc.below hb0))
  have hfo : (l.filter fun a => !(touB o0) a).Pairwise ltL := hs.filter _
  have hm1 : (l.filter (touB o0)).length ≤ 512 := Nat.le_trans (List.length_filter_le _ _) hn
  have hm2 : (l.filter fun a => !(touB o0) a).length ≤ 512 := Nat.le_trans (List.length_filter_le _ _) hn
  have HAO : Hid (asOne l y (touB o0) = ins (l.filter fun a => !(touB o0) a) (hull y (l.filter (touB o0)))) := Lib.hid rfl
  rw [HAO.out]
  clear HAO hr hc hs
  unfold PartX at HPT
  generalize l.filter (touB o0) = M at *
  generalize (l.filter fun a => !(touB o0) a) = O at *
  go_enter Try.func30, Try.ntmps30
  go_upto_region 1 with fail
  generalize w.alloc (.cells #[.int .i64 y.t, .string y.lo.s, .string y.hi.s] 34) = w0 at HPT hb0 hx0 hgz ⊢
  generalize hgs : w.heap.size = gs at hx0 hgz ⊢
  have HB0 := Lib.hid hb0
  have HX0 := Lib.hid hx0
  have HGS := Lib.hid hgs
  have HGZ := Lib.hid hgz
  have HFO := Lib.hid hfo
  have HM1 := Lib.hid hm1
  have HM2 := Lib.hid hm2
  clear hb0 hx0 hgs hgz hfo hm1 hm2
  go_upto_region 2 with (first | (go_at_call 40; (with_reducible refine HPT.out.mono ?_); rintro e w1 ⟨m, o, rfl, h2, hb⟩; have H2 := Lib.hid h2; have HB1 := Lib.hid (thn HB0.out hb); have HX1 := Lib.hid (HX0.out.below hb); have HZ1 := Lib.hid (Nat.lt_of_lt_of_le HGZ.out hb.size); have HZW1 := Lib.hid hb.size; clear h2 hb))
  obtain ⟨A2, c2, rfl, hr2⟩ := Rd.of_own (l := M) H2.out.m_own
  have HL2 := Lib.hid hr2.len
  have hcap : c2 ≤ 9223372036854775807 := hr2.cap
  clear hr2
  go_wp2
  go_loopw [10, 21] (fun _ i wr => ∃ j : Nat, j ≤ M.length ∧ i = .int .i64 j ∧ Box wr gs (hull y (M.take j)) ∧ Two wr w0.heap.size (.slice A2 M.length c2) o M O ∧ (gs < wr.heap.size ∧ w0.heap.size ≤ wr.heap.size) ∧ Below w.heap.size w wr) (fun _ i _ => M.length - (intOf i).toNat)
  case atStart => exact ⟨0, by omega, rfl, HX1.out, H2.out, ⟨HZ1.out, HZW1.out⟩, HB1.out⟩
  case round =>
    obtain ⟨j, hj, rfl, hX, hT, ⟨hz, hzw⟩, hB⟩ := hrel
    have HB := Lib.hid hB
    have HX := Lib.hid hX
    have HT := Lib.hid hT
    have HZ := Lib.hid hz
    have HZW := Lib.hid hzw
    have hMl := HM1.out
    clear hB hX hT hz hzw HB1 HX1 HZ1 HZW1 H2 HPT HX0
    by_cases hlt : j < M.length
    · obtain ⟨A3, c3, e3, hr3⟩ := Rd.of_own (l := M) HT.out.m_own
      injection e3 with e3 _ e4
      subst e3 e4
      obtain ⟨ad, rfl, k0, k1, k2⟩ := hr3.at_ hlt
      clear hr3
      have HST := Lib.hid (hull_step (x := y) hlt)
      generalize hull y (M.take j) = x at *
      generalize M[j] = v at *
      have hq0 := cell_lt k0
      rw [add_block] at hq0
      have HB1 := Lib.hid (thn HB.out (below1 wr (.cells #[.int .i64 v.t, .string v.lo.s, .string v.hi.s] 34)))
      have HX1 := Lib.hid (HX.out.below (below1 wr (.cells #[.int .i64 v.t, .string v.lo.s, .string v.hi.s] 34)))
      have HT1 := Lib.hid (HT.out.below (below1 wr (.cells #[.int .i64 v.t, .string v.lo.s, .string v.hi.s] 34)))
      have HV1 := Lib.hid (Box.new wr v)
      have HZ1 := Lib.hid (show gs < (wr.alloc (.cells #[.int .i64 v.t, .string v.lo.s, .string v.hi.s] 34)).heap.size by have := HZ.out; simp; omega)
      have HZW1 := Lib.hid (show w0.heap.size ≤ (wr.alloc (.cells #[.int .i64 v.t, .string v.lo.s, .string v.hi.s] 34)).heap.size by have := HZW.out; simp; omega)
      have HNE := Lib.hid (show wr.heap.size ≠ gs by have := HZ.out; omega)
      go_upto_region 5 with fail
      clear k0 k1 k2 hq0 HX HT HB HZ HZW
      generalize wr.alloc (.cells #[.int .i64 v.t, .string v.lo.s, .string v.hi.s] 34) = W1 at *
      generalize wr.heap.size = gv at *
      obtain ⟨x0, x1, x2⟩ := HX1.out.three
      obtain ⟨v0, v1, v2⟩ := HV1.out.three
      have f1 := HX1.out.free 1
      have hmin : ∀ ts t W, (Builtin.min_ ts t #[.string x.lo.s, .string v.lo.s]).run Try.prog W = .ok (.string (if v.lo < x.lo then v.lo else x.lo).s) W := fun ts t W => by rw [Lib.run_min_strs, minS_eq]
      have HWD : Hid (wid x v = ⟨x.t, if v.lo < x.lo then v.lo else x.lo, if 0 < ordE v.hi x.hi then v.hi else x.hi⟩) := Lib.hid rfl
      generalize (if v.lo < x.lo then v.lo else x.lo) = K at hmin HWD
      go_upto_region 6 with fail
      clear hmin x0 x1 x2 v0 v1 v2 f1
      have HX2 := Lib.hid (HX1.out.lo K)
      have HV2 := Lib.hid (HV1.out.other HNE.out.symm 1 (.string K.s))
      have HT2 := Lib.hid (HT1.out.set HGZ.out 1 (.string K.s))
      have HB2 := Lib.hid (HB1.out.setCell (p := ⟨gs, 1, none⟩) (by have := HGS.out; simp; omega) (.string K.s))
      have HZ2 := Lib.hid (show gs < (W1.setCell ⟨gs, 1, none⟩ (.string K.s)).heap.size by have := HZ1.out; simpa using this)
      have HZW2 := Lib.hid (show w0.heap.size ≤ (W1.setCell ⟨gs, 1, none⟩ (.string K.s)).heap.size by have := HZW1.out; simpa using this)
      clear HX1 HV1 HT1 HB1 HZ1 HZW1
      generalize W1.setCell ⟨gs, 1, none⟩ (.string K.s) = W2 at *
      obtain ⟨x0, x1, x2⟩ := HX2.out.three
      obtain ⟨v0, v1, v2⟩ := HV2.out.three
      have f2 := HX2.out.free 2
      simp only at x0 x1 x2
      have HOR := Lib.hid fun W => order_any v.hi x.hi W
      generalize ordE v.hi x.hi = R at *
      by_cases hR : 0 < R
      · have HWD2 : Hid (wid x v = ⟨x.t, K, v.hi⟩) := Lib.hid (by rw [HWD.out, if_pos hR])
        clear HWD
        go_wp2_with (go_at_call 45; (with_reducible refine (HOR.out _).mono ?_); rintro e w3 ⟨rfl, rfl⟩)
        go_roundw
        case rel => exact ⟨j + 1, hlt, by go_num, by rw [HST.out, HWD2.out]; exact HX2.out.hi v.hi, HT2.out.set HGZ.out 2 (.string v.hi.s), ⟨by have := HZ2.out; simpa using this, by have := HZW2.out; simpa using this⟩, HB2.out.setCell (p := ⟨gs, 2, none⟩) (by have := HGS.out; simp; omega) (.string v.hi.s)⟩
        case measure => simp [intOf]; omega
      · have HWD2 : Hid (wid x v = ⟨x.t, K, x.hi⟩) := Lib.hid (by rw [HWD.out, if_neg hR])
        clear HWD
        go_wp2_with (go_at_call 45; (with_reducible refine (HOR.out _).mono ?_); rintro e w3 ⟨rfl, rfl⟩)
        go_roundw
        case rel => exact ⟨j + 1, hlt, by go_num, by rw [HST.out, HWD2.out]; exact HX2.out, HT2.out, ⟨HZ2.out, HZW2.out⟩, HB2.out⟩
        case measure => simp [intOf]; omega
    · obtain rfl : j = M.length := by omega
      rw [List.take_length] at HX
      generalize hull y M = x at *
      obtain ⟨A4, c4, rfl, hr4⟩ := Rd.of_own (l := O) HT.out.o_own
      have HRO := Lib.hid hr4
      obtain ⟨x0, x1, x2⟩ := HX.out.three
      have HSE := Lib.hid fun W (hb : Below wr.heap.size wr W) => search_any x A4 O.length c4 O W (hr4.below hb) (by have := HM2.out; omega) HFO.out
      have HPL := Lib.hid (pos_le O x)
      have HIN : Hid (ins O x = O.take (pos O x) ++ x :: O.drop (pos O x)) := Lib.hid rfl
      have HIL := Lib.hid (ins_len O x)
      generalize pos O x = P at *
      clear hr4 HIL
      go_upto_region 10 with (first
        | (go_at_call 47; (with_reducible refine (HSE.out _ (Below.refl _ _)).mono ?_); rintro e w5 ⟨b, rfl, hb⟩; have HX5 := Lib.hid (HX.out.below hb); have HT5 := Lib.hid (HT.out.below hb); have HB5 := Lib.hid (thn HB.out hb); have HZ5 := Lib.hid (Nat.le_trans HZW.out hb.size); clear hb))
      obtain ⟨y0, y1, y2⟩ := HX5.out.three
      have hz5 : w0.heap.size ≤ w5.heap.size := HZ5.out
      have HW6 := Lib.hid (insert_any O.length (by have := HM2.out; omega) (w5.alloc (.cells #[.int .i64 x.t, .string x.lo.s, .string x.hi.s] 34)) w0.heap.size P (.slice A4 O.length c4) O x w5.heap.size rfl HPL.out (HT5.out.o_own.alloc _) (by simp; omega) (heap_alloc_new w5 _) (fun e => by have := (HT5.out.o_own.lt _ e).2; omega))
      have HB6 := Lib.hid (thn HB5.out (below1 w5 (.cells #[.int .i64 x.t, .string x.lo.s, .string x.hi.s] 34)))
      go_wp2_with (first
        | (go_at_call 48; (with_reducible refine HW6.out.mono ?_); rintro e w7 ⟨v7, rfl, ho7, hg7⟩; have HO7 := Lib.hid ho7; have HB7 := Lib.hid (HB6.out.grown hg7 HB6.out.size (fun k hk => Nat.le_trans HB0.out.size (HT5.out.o_own.lt k hk).1)); clear ho7 hg7))
      go_ret
      exact ⟨v7, rfl, by rw [HIN.out]; exact own_base HO7.out HB0.out.size, HB7.out⟩
end Go.Proofs.Ytmjcmeebcochgaa
