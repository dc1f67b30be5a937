/- What slices.MinFunc and slices.MaxFunc over value.Order, and fresh of package eval, answer: the walks. Conditions: lengths that every machine keeps. -/
import Derived.Test.YtjogpcffldkhlaaEd
import Derived.Lib.QuietBelow
namespace Go.Proofs.Ytjogpcffldkhlaa
open Go.RowKit Go.Sort
set_option linter.unusedSimpArgs false
set_option linter.unusedVariables false

theorem less_iff : ∀ (x y : List UInt8), Op.bytesLess x y = true ↔ x < y
  | [], [] => by simp [Op.bytesLess]
  | _ :: _, [] => by simp [Op.bytesLess]
  | [], _ :: _ => by simp [Op.bytesLess]
  | a :: x, b :: y => by
    have h := less_iff x y
    rw [Op.bytesLess]
    simp only [List.cons_lt_cons_iff, ← h]
    by_cases h1 : a < b <;> by_cases h2 : a = b <;> simp [h1, h2]
theorem less_trans {a b c : List UInt8} (h1 : Op.bytesLess a b = true) (h2 : Op.bytesLess b c = true) : Op.bytesLess a c = true := by
  rw [less_iff] at *; exact List.lt_trans h1 h2
theorem less_irrefl (a : List UInt8) : Op.bytesLess a a = false := by
  rw [Bool.eq_false_iff]; intro h; rw [less_iff] at h; exact List.lt_irrefl a h
theorem less_tri {a b : List UInt8} (h1 : Op.bytesLess a b = false) (h2 : Op.bytesLess b a = false) : a = b := by
  rw [Bool.eq_false_iff, ne_eq, less_iff, List.not_lt] at h1 h2
  exact List.le_antisymm h2 h1
theorem ordS_neg (s t : ByteArray) : ordS s t = -ordS t s := by
  have h1 := less_irrefl s.toList
  have h2 := @less_tri s.toList t.toList
  have h3 := @less_trans s.toList t.toList s.toList
  grind [ordS]
theorem ordS_trans (s t u : ByteArray) (h1 : ordS s t ≤ 0) (h2 : ordS t u ≤ 0) : ordS s u ≤ 0 ∧ (ordS s t < 0 ∨ ordS t u < 0 → ordS s u < 0) ∧ (ordS s t = 0 ∧ ordS t u = 0 → ordS s u = 0) := by
  have a1 := @less_trans s.toList t.toList u.toList
  have a2 := less_irrefl s.toList
  grind [ordS]
theorem ordI_zero (a b : Int) : ordI a b = 0 ↔ a = b := by unfold ordI; grind
theorem ordI_neg (a b : Int) : ordI a b = -ordI b a := by unfold ordI; grind
theorem ordI_trans (a b c : Int) (h1 : ordI a b ≤ 0) (h2 : ordI b c ≤ 0) : ordI a c ≤ 0 ∧ (ordI a b < 0 ∨ ordI b c < 0 → ordI a c < 0) ∧ (ordI a b = 0 ∧ ordI b c = 0 → ordI a c = 0) := by unfold ordI at *; grind
theorem ordV_neg (k n : Int) (s : ByteArray) (k' n' : Int) (s' : ByteArray) : ordV k n s k' n' s' = -ordV k' n' s' k n s := by
  have h1 := ordI_neg k k'
  have h2 := ordI_neg n n'
  have h3 := ordS_neg s s'
  grind [ordV]
theorem ordV_trans2 (k n : Int) (s : ByteArray) (k' n' : Int) (s' : ByteArray) (k2 n2 : Int) (s2 : ByteArray) (h1 : ordV k n s k' n' s' ≤ 0) (h2 : ordV k' n' s' k2 n2 s2 ≤ 0) :
    ordV k n s k2 n2 s2 ≤ 0 ∧ ((ordV k n s k' n' s' < 0 ∨ ordV k' n' s' k2 n2 s2 < 0) ↔ ordV k n s k2 n2 s2 < 0) := by
  have a1 := ordI_trans k k' k2
  have a2 := ordI_trans n n' n2
  have a3 := ordS_trans s s' s2
  have z1 := ordI_zero k k'
  have z2 := ordI_zero k' k2
  have z3 := ordI_zero k k2
  grind [ordV]

def ordL (a b : Vl) : Int := ordV a.k a.n a.s b.k b.n b.s
theorem ordL_neg (a b : Vl) : ordL a b = -ordL b a := ordV_neg _ _ _ _ _ _
theorem ordL_lt {a b c : Vl} (h1 : ordL a b < 0) (h2 : ordL b c < 0) : ordL a c < 0 :=
  (ordV_trans2 a.k a.n a.s b.k b.n b.s c.k c.n c.s (Int.le_of_lt h1) (Int.le_of_lt h2)).2.1 (.inl h1)
theorem ordL_self (a : Vl) : ordL a a = 0 := by have := ordL_neg a a; omega
/-- x is one of l, and none of l lies on the wrong side of it. -/
def Ext (up : Bool) (l : List Vl) (x : Vl) : Prop := x ∈ l ∧ ∀ v ∈ l, ¬ (if up then ordL x v < 0 else ordL v x < 0)
theorem Ext.one (up : Bool) (x : Vl) : Ext up [x] x := ⟨by simp, fun v hv => by simp at hv; subst hv; rw [ordL_self]; cases up <;> simp⟩
theorem Ext.keep {up : Bool} {l : List Vl} {x y : Vl} (h : Ext up l x) (hy : ¬ (if up then ordL x y < 0 else ordL y x < 0)) : Ext up (l ++ [y]) x :=
  ⟨by simp [h.1], fun v hv => by
    rcases List.mem_append.1 hv with hv | hv
    · exact h.2 v hv
    · simp at hv; subst hv; exact hy⟩
theorem Ext.turn {up : Bool} {l : List Vl} {x y : Vl} (h : Ext up l x) (hy : if up then ordL x y < 0 else ordL y x < 0) : Ext up (l ++ [y]) y :=
  ⟨by simp, fun v hv => by
    rcases List.mem_append.1 hv with hv | hv
    · have h1 := h.2 v hv
      cases up
      · simp only [Bool.false_eq_true, if_false] at h1 hy ⊢
        exact fun h2 => h1 (ordL_lt h2 hy)
      · simp only [if_true] at h1 hy ⊢
        exact fun h2 => h1 (ordL_lt hy h2)
    · simp at hv; subst hv; rw [ordL_self]; cases up <;> simp⟩

theorem add0 (a : Addr) : a.add 0 = a := by unfold Addr.add; simp
theorem Row.one {w : World} {g : Nat} {v : Vl} (h : Row w g [v]) :
    w.cell? ⟨g, 0, none⟩ = some (.int .i64 v.k) ∧ w.cell? ⟨g, 1, none⟩ = some (.int .i64 v.n) ∧ w.cell? ⟨g, 2, none⟩ = some (.string v.s) ∧
    w.frozen? ⟨g, 0, none⟩ = false ∧ w.frozen? ⟨g, 1, none⟩ = false ∧ w.frozen? ⟨g, 2, none⟩ = false := h.at_ (j := 0) (by simp)
theorem Row.new (w : World) (v : Vl) (t : TypeId) (g : Nat) (hg : g = w.heap.size) : Row (w.alloc (.cells #[.int .i64 v.k, .int .i64 v.n, .string v.s] t)) g [v] := by
  subst hg
  refine ⟨fun j u hj => ?_, fun j hj => ?_⟩
  · rw [Nat.zero_add, cell_last _ _ _ _ _ rfl, ← hj]
    simp [vals, valC]
  · have hj' : j < 3 := by simpa using hj
    refine ⟨?_, ?_⟩
    · rw [Nat.zero_add, cell_last _ _ _ _ _ rfl]
      simp [hj']
    · exact World.frozen?_alloc_new w _ t _
theorem Row.other {w : World} {g g' : Nat} {m : List Vl} (h : Row w g m) (vs : List Value) (o : Nat) (hg : g ≠ g') : Row (w.setCells g' o vs) g m :=
  ⟨fun j u hj => by rw [World.cell?_setCells_out g' vs o w _ (fun e _ => absurd e hg)]; exact h.cells j u hj, World.there_setCells h.there _ _ _⟩
theorem order_V (a b : Vl) (w : World) : Calls Try.prog 9 #[.agg #[.int .i64 a.k, .int .i64 a.n, .string a.s], .agg #[.int .i64 b.k, .int .i64 b.n, .string b.s]] w fun e w' => e = .returned (.int .i64 (ordL a b)) ∧ Below w.heap.size w w' := order_any _ _ _ _ _ _ w

def zeroV : Vl := ⟨0, 0, ⟨#[]⟩, by decide +kernel, by decide⟩

set_option maxHeartbeats 2000000 in
theorem min_any (ad : Addr) (n c : Nat) (l : List Vl) (w : World) (hl : n = l.length) (hr : RdL w (some ad) l) (hn : n ≤ 9223372036854775807) (hpos : 0 < n) :
    Calls Try.prog 17 #[.slice (some ad) n c, .func (.func 9) #[] #[]] w fun e w' => ∃ x : Vl, e = .returned x.val ∧ Ext false l x ∧ Below w.heap.size w w' := by
  subst hl
  obtain ⟨ad', e0, hc⟩ := hr.at_ hpos
  injection e0 with e0
  subst e0
  obtain ⟨c0, c1, c2⟩ := hc
  rw [Nat.zero_mul, add0] at c0 c1 c2
  have hb0 := cell_lt c0
  have HR := Lib.hid hr
  clear hr
  go_enter Try.func17, Try.ntmps17
  go_wp2
  go_loopw [6] (fun i wr => ∃ (j : Nat) (x : Vl), i = .int .i64 j ∧ 1 ≤ j ∧ j ≤ l.length ∧ Ext false (l.take j) x ∧ Row wr w.heap.size [zeroV] ∧ Row wr (w.heap.size + 1) [x] ∧ Below w.heap.size w wr ∧ w.heap.size + 1 < wr.heap.size) (fun i _ => l.length - (intOf i).toNat)
  case atStart =>
    refine ⟨1, l[0], rfl, Nat.le_refl _, hpos, ?_, (Row.new w zeroV _ _ rfl).below (below1 _ _), Row.new _ l[0] _ _ (by simp), below2 _ _ _, by simp⟩
    have e : l.take 1 = [l[0]] := by rw [List.take_succ_eq_append_getElem hpos]; rfl
    rw [e]
    exact Ext.one _ _
  case round =>
    obtain ⟨j, x, rfl, h1, hle, hx, hR0, hR1, hB, hz⟩ := hrel
    have HX := Lib.hid hx
    have H0 := Lib.hid hR0
    have H1 := Lib.hid hR1
    have HB := Lib.hid hB
    clear hx hR0 hR1 hB c0 c1 c2 hb0
    by_cases hlt : j < l.length
    · obtain ⟨ad', e0, hc⟩ := (HR.out.below HB.out).at_ hlt
      injection e0 with e0
      subst e0
      obtain ⟨c0, c1, c2⟩ := hc
      have hb0 := cell_lt c0
      rw [add_block] at hb0
      obtain ⟨b0, b1, b2, _, _, _⟩ := H1.out.one
      have ho := fun w => order_V l[j] x w
      generalize hO : ordL l[j] x = O at ho
      have HO := Lib.hid hO
      clear hO
      go_wp2_with fail
      have b0' := cell_regrown b0
      have b1' := cell_regrown b1
      have b2' := cell_regrown b2
      have c0' := cell_regrown c0
      have c1' := cell_regrown c1
      have c2' := cell_regrown c2
      clear b0 b1 b2 c0 c1 c2
      refine wp_region_quiet_below (by kernel_rfl) (by kernel_rfl) ?_
      repeat (go_big_quiet_step (exact Calls.regrown_of (ho _)))
      refine wpQuiet_nil ?_
      intro w5 hw5
      obtain ⟨pp, rfl⟩ := hw5
      clear b0' b1' b2' c0' c1' c2' ho
      have hb5 := below_regrown wr pp.d pp.os
      generalize grow (redrawn wr pp.d) pp.os = W5 at hb5 ⊢
      have HB5 := Lib.hid hb5
      clear hb5
      by_cases hO : O < 0
      · obtain ⟨ad', e0, hc⟩ := ((HR.out.below HB.out).below HB5.out).at_ hlt
        injection e0 with e0
        subst e0
        obtain ⟨c0, c1, c2⟩ := hc
        obtain ⟨b0, b1, b2, f0, f1, f2⟩ := (H1.out.below HB5.out).one
        go_wp2
        go_roundw
        case rel =>
          exact ⟨j + 1, l[j], by go_num, by omega, hlt, by rw [List.take_succ_eq_append_getElem hlt]; exact HX.out.turn (by simp only [Bool.false_eq_true, if_false]; rw [HO.out]; exact hO), (H0.out.below HB5.out).other (g' := w.heap.size + 1) (valC l[j]) 0 (by omega), (H1.out.below HB5.out).set (i := 0) l[j] (by simp), below_cells (by omega) (valC l[j]) 0 (HB.out.trans (HB5.out.mono HB.out.size)), by have := HB5.out.size; simp; omega⟩
        case measure => simp [intOf]; omega
      · go_wp2
        go_roundw
        case rel =>
          exact ⟨j + 1, x, by go_num, by omega, hlt, by rw [List.take_succ_eq_append_getElem hlt]; exact HX.out.keep (by simp only [Bool.false_eq_true, if_false]; rw [HO.out]; exact hO), H0.out.below HB5.out, H1.out.below HB5.out, HB.out.trans (HB5.out.mono HB.out.size), by have := HB5.out.size; omega⟩
        case measure => simp [intOf]; omega
    · obtain ⟨b0, b1, b2, _, _, _⟩ := H1.out.one
      obtain ⟨r0, r1, r2, f0, f1, f2⟩ := H0.out.one
      go_wp2
      have e : j = l.length := by omega
      have hx := HX.out
      rw [e, List.take_length] at hx
      exact bodyPost_ret (v := x.val) (by simp [results, Try.results17, go_sem, r0, r1, r2]) rfl ⟨x, rfl, hx, below_cells (Nat.le_refl _) (valC x) 0 HB.out⟩

set_option maxHeartbeats 2000000 in
theorem max_any (ad : Addr) (n c : Nat) (l : List Vl) (w : World) (hl : n = l.length) (hr : RdL w (some ad) l) (hn : n ≤ 9223372036854775807) (hpos : 0 < n) :
    Calls Try.prog 18 #[.slice (some ad) n c, .func (.func 9) #[] #[]] w fun e w' => ∃ x : Vl, e = .returned x.val ∧ Ext true l x ∧ Below w.heap.size w w' := by
  subst hl
  obtain ⟨ad', e0, hc⟩ := hr.at_ hpos
  injection e0 with e0
  subst e0
  obtain ⟨c0, c1, c2⟩ := hc
  rw [Nat.zero_mul, add0] at c0 c1 c2
  have hb0 := cell_lt c0
  have HR := Lib.hid hr
  clear hr
  go_enter Try.func18, Try.ntmps18
  go_wp2
  go_loopw [6] (fun i wr => ∃ (j : Nat) (x : Vl), i = .int .i64 j ∧ 1 ≤ j ∧ j ≤ l.length ∧ Ext true (l.take j) x ∧ Row wr w.heap.size [zeroV] ∧ Row wr (w.heap.size + 1) [x] ∧ Below w.heap.size w wr ∧ w.heap.size + 1 < wr.heap.size) (fun i _ => l.length - (intOf i).toNat)
  case atStart =>
    refine ⟨1, l[0], rfl, Nat.le_refl _, hpos, ?_, (Row.new w zeroV _ _ rfl).below (below1 _ _), Row.new _ l[0] _ _ (by simp), below2 _ _ _, by simp⟩
    have e : l.take 1 = [l[0]] := by rw [List.take_succ_eq_append_getElem hpos]; rfl
    rw [e]
    exact Ext.one _ _
  case round =>
    obtain ⟨j, x, rfl, h1, hle, hx, hR0, hR1, hB, hz⟩ := hrel
    have HX := Lib.hid hx
    have H0 := Lib.hid hR0
    have H1 := Lib.hid hR1
    have HB := Lib.hid hB
    clear hx hR0 hR1 hB c0 c1 c2 hb0
    by_cases hlt : j < l.length
    · obtain ⟨ad', e0, hc⟩ := (HR.out.below HB.out).at_ hlt
      injection e0 with e0
      subst e0
      obtain ⟨c0, c1, c2⟩ := hc
      have hb0 := cell_lt c0
      rw [add_block] at hb0
      obtain ⟨b0, b1, b2, _, _, _⟩ := H1.out.one
      have ho := fun w => order_V l[j] x w
      generalize hO : ordL l[j] x = O at ho
      have HO := Lib.hid hO
      clear hO
      go_wp2_with fail
      have b0' := cell_regrown b0
      have b1' := cell_regrown b1
      have b2' := cell_regrown b2
      have c0' := cell_regrown c0
      have c1' := cell_regrown c1
      have c2' := cell_regrown c2
      clear b0 b1 b2 c0 c1 c2
      refine wp_region_quiet_below (by kernel_rfl) (by kernel_rfl) ?_
      repeat (go_big_quiet_step (exact Calls.regrown_of (ho _)))
      refine wpQuiet_nil ?_
      intro w5 hw5
      obtain ⟨pp, rfl⟩ := hw5
      clear b0' b1' b2' c0' c1' c2' ho
      have hb5 := below_regrown wr pp.d pp.os
      generalize grow (redrawn wr pp.d) pp.os = W5 at hb5 ⊢
      have HB5 := Lib.hid hb5
      clear hb5
      by_cases hO : 0 < O
      · obtain ⟨ad', e0, hc⟩ := ((HR.out.below HB.out).below HB5.out).at_ hlt
        injection e0 with e0
        subst e0
        obtain ⟨c0, c1, c2⟩ := hc
        obtain ⟨b0, b1, b2, f0, f1, f2⟩ := (H1.out.below HB5.out).one
        go_wp2
        go_roundw
        case rel =>
          exact ⟨j + 1, l[j], by go_num, by omega, hlt, by rw [List.take_succ_eq_append_getElem hlt]; exact HX.out.turn (by simp only [if_true]; rw [ordL_neg, HO.out]; omega), (H0.out.below HB5.out).other (g' := w.heap.size + 1) (valC l[j]) 0 (by omega), (H1.out.below HB5.out).set (i := 0) l[j] (by simp), below_cells (by omega) (valC l[j]) 0 (HB.out.trans (HB5.out.mono HB.out.size)), by have := HB5.out.size; simp; omega⟩
        case measure => simp [intOf]; omega
      · go_wp2
        go_roundw
        case rel =>
          exact ⟨j + 1, x, by go_num, by omega, hlt, by rw [List.take_succ_eq_append_getElem hlt]; exact HX.out.keep (by simp only [if_true]; rw [ordL_neg, HO.out]; omega), H0.out.below HB5.out, H1.out.below HB5.out, HB.out.trans (HB5.out.mono HB.out.size), by have := HB5.out.size; omega⟩
        case measure => simp [intOf]; omega
    · obtain ⟨b0, b1, b2, _, _, _⟩ := H1.out.one
      obtain ⟨r0, r1, r2, f0, f1, f2⟩ := H0.out.one
      go_wp2
      have e : j = l.length := by omega
      have hx := HX.out
      rw [e, List.take_length] at hx
      exact bodyPost_ret (v := x.val) (by simp [results, Try.results18, go_sem, r0, r1, r2]) rfl ⟨x, rfl, hx, below_cells (Nat.le_refl _) (valC x) 0 HB.out⟩

set_option maxHeartbeats 1000000 in
theorem fresh_any (v : Vl) (w : World) :
    Calls Try.prog 12 #[.agg #[.int .i64 v.k, .int .i64 v.n, .string v.s]] w fun e w' => e = .returned v.val ∧ Below w.heap.size w w' := by
  have hs := v.h.2
  go_enter Try.func12, Try.ntmps12
  go_wp2_with (go_at_call 27; refine (sClone_any _ _ hs).mono ?_; rintro e w2 ⟨rfl, hb⟩; obtain ⟨c0, c1, c2, f0, f1, f2⟩ := (((Row.new w v 23 _ rfl).below (below1 _ (.cells #[.int .i64 0, .int .i64 0, .string ⟨#[]⟩] 23))).below hb).one; obtain ⟨d0, d1, d2, g0, g1, g2⟩ := ((Row.new (w.alloc (.cells #[.int .i64 v.k, .int .i64 v.n, .string v.s] 23)) zeroV 23 (w.heap.size + 1) (by simp)).below hb).one; have HB := Lib.hid hb; clear hb)
  exact bodyPost_ret (v := v.val) (by simp [results, Try.results12, go_sem, d0, d1, d2, c0, c1, c2]) rfl ⟨rfl, by repeat (first | exact (below2 _ _ _).trans (HB.out.mono (by simp; omega)) | (refine Below.setCell ?_ (by first | omega | (simp; done) | (simp; omega)) _))⟩

end Go.Proofs.Ytjogpcffldkhlaa
