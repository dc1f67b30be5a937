/- What slices.DeleteFunc of package eval's calls makes of a list in memory of the call's own, where the test is whether a value is NULL: the walk. Conditions: lengths that every machine keeps. -/
import Derived.Test.YtjogpcffldkhlaaEc
namespace Go.Proofs.Ytjogpcffldkhlaa
open Go.RowKit
set_option linter.unusedSimpArgs false
set_option linter.unusedVariables false

def keepV (v : Vl) : Bool := !decide (v.k = 0)
/-- The row of block g holds the list m, and may be written. -/
structure Row (w : World) (g : Nat) (m : List Vl) : Prop where
  cells : w.rangeAt g 0 (vals m)
  there : w.there g 0 (m.length * 3)
theorem add_lit (g o i : Nat) : (⟨g, o, none⟩ : Addr).add i = ⟨g, o + i, none⟩ := by unfold Addr.add; split <;> simp_all
theorem Row.rd {w : World} {g : Nat} {m : List Vl} (h : Row w g m) : RdL w (some ⟨g, 0, none⟩) m := fun _ => ⟨_, rfl, fun j v hj => by
  rw [add_lit]
  refine ⟨?_, ?_, ?_⟩
  · exact h.cells (j * 3 + 0) _ (flat_get m j 0 v hj (by omega))
  · have := h.cells (j * 3 + 1) _ (flat_get m j 1 v hj (by omega))
    rwa [← Nat.add_assoc] at this
  · have := h.cells (j * 3 + 2) _ (flat_get m j 2 v hj (by omega))
    rwa [← Nat.add_assoc] at this⟩
theorem Row.lt {w : World} {g : Nat} {m : List Vl} (h : Row w g m) (hm : 0 < m.length) : g < w.heap.size := by
  obtain ⟨v, hv⟩ := Option.isSome_iff_exists.1 (h.there 0 (by omega)).1
  exact cell_lt hv
theorem Row.below {w w' : World} {g : Nat} {m : List Vl} (h : Row w g m) (hb : Below w.heap.size w w') : Row w' g m := by
  by_cases hm : 0 < m.length
  · have hg := h.lt hm
    refine ⟨fun j v hj => (hb.cell (p := ⟨g, 0 + j, none⟩) hg).trans (h.cells j v hj), fun j hj => ?_⟩
    have h1 := h.there j hj
    rw [← hb.cell (p := ⟨g, 0 + j, none⟩) hg, ← hb.frozen (p := ⟨g, 0 + j, none⟩) hg] at h1
    exact h1
  · have e : m = [] := List.eq_nil_of_length_eq_zero (by omega)
    subst e
    exact ⟨fun j v hj => by simp [vals] at hj, fun j hj => by simp at hj⟩
theorem Row.at_ {w : World} {g : Nat} {m : List Vl} {j : Nat} (h : Row w g m) (hj : j < m.length) :
    w.cell? ⟨g, j * 3, none⟩ = some (.int .i64 m[j].k) ∧ w.cell? ⟨g, j * 3 + 1, none⟩ = some (.int .i64 m[j].n) ∧ w.cell? ⟨g, j * 3 + 2, none⟩ = some (.string m[j].s) ∧
    w.frozen? ⟨g, j * 3, none⟩ = false ∧ w.frozen? ⟨g, j * 3 + 1, none⟩ = false ∧ w.frozen? ⟨g, j * 3 + 2, none⟩ = false := by
  obtain ⟨_, e, hc⟩ := h.rd (by intro e; subst e; simp at hj)
  injection e with e
  subst e
  have h1 := hc j _ (List.getElem?_eq_getElem hj)
  rw [add_lit, Nat.zero_add] at h1
  have t0 := (h.there (j * 3) (by omega)).2
  have t1 := (h.there (j * 3 + 1) (by omega)).2
  have t2 := (h.there (j * 3 + 2) (by omega)).2
  rw [Nat.zero_add] at t0 t1 t2
  exact ⟨h1.1, h1.2.1, h1.2.2, t0, t1, t2⟩
theorem vals_set (m : List Vl) (i : Nat) (v : Vl) (hi : i < m.length) : ∀ j, (vals (m.set i v))[j]? = if i * 3 ≤ j ∧ j < i * 3 + 3 then (valC v)[j - i * 3]? else (vals m)[j]? := by
  intro j
  by_cases hj : j < m.length * 3
  · obtain ⟨q, r, rfl, hr⟩ : ∃ q r, j = q * 3 + r ∧ r < 3 := ⟨j / 3, j % 3, by omega, by omega⟩
    have hq : q < m.length := by omega
    by_cases hqi : q = i
    · subst hqi
      rw [if_pos (by omega)]
      have := flat_get (m.set q v) q r v (by simp [hq]) hr
      have e : q * 3 + r - q * 3 = r := by omega
      rw [e]
      exact this
    · rw [if_neg (by omega)]
      have h1 := flat_get (m.set i v) q r m[q] (by rw [List.getElem?_set_ne (by omega)]; exact List.getElem?_eq_getElem hq) hr
      have h2 := flat_get m q r m[q] (List.getElem?_eq_getElem hq) hr
      exact h1.trans h2.symm
  · rw [if_neg (by omega), List.getElem?_eq_none (by rw [vals_len]; simp; omega), List.getElem?_eq_none (by rw [vals_len]; omega)]
theorem Row.set {w : World} {g i : Nat} {m : List Vl} (h : Row w g m) (v : Vl) (hi : i < m.length) : Row (w.setCells g (i * 3) (valC v)) g (m.set i v) := by
  refine ⟨fun j u hj => ?_, ?_⟩
  · rw [vals_set m i v hi] at hj
    split at hj
    · rename_i hr
      have hs := World.cell?_setCells_in g (valC v) (i * 3) w (fun t ht => by
        have := (h.there (i * 3 + t) (by simp [valC] at ht; omega)).1
        rwa [Nat.zero_add] at this) (j - i * 3) (by simp [valC]; omega)
      have e : i * 3 + (j - i * 3) = 0 + j := by omega
      rw [e] at hs
      rw [hs, ← hj, List.getElem?_eq_getElem]
    · rename_i hr
      rw [World.cell?_setCells_out g (valC v) (i * 3) w ⟨g, 0 + j, none⟩ (fun _ _ => by simp [valC]; omega)]
      exact h.cells j u hj
  · rw [List.length_set]
    exact World.there_setCells h.there _ _ _
theorem below_cells {B g : Nat} (hB : B ≤ g) : ∀ (vs : List Value) (o : Nat) {a w : World}, Below B a w → Below B a (w.setCells g o vs)
  | [], _, _, _, h => h
  | v :: r, o, a, w, h => below_cells hB r (o + 1) (h.setCell (by omega) v)

/-- Where the second loop of DeleteFunc stands. -/
structure Dl (l m : List Vl) (i j : Nat) : Prop where
  len : m.length = l.length
  lt : i < j
  le : j ≤ l.length
  done : m.take i = (l.take j).filter keepV
  rest : m.drop j = l.drop j
theorem Dl.get {l m : List Vl} {i j : Nat} (h : Dl l m i j) (hj : j < l.length) : m[j]'(by rw [h.len]; exact hj) = l[j] := by
  have h1 := congrArg (fun x => x[0]?) h.rest
  simp at h1
  rw [List.getElem?_eq_getElem (by rw [h.len]; exact hj), List.getElem?_eq_getElem hj] at h1
  injection h1
theorem Dl.keep {l m : List Vl} {i j : Nat} (h : Dl l m i j) (hj : j < l.length) (hk : ¬ l[j].k = 0) : Dl l (m.set i l[j]) (i + 1) (j + 1) := by
  have hi : i < m.length := by have := h.lt; have := h.len; omega
  refine ⟨by simp [h.len], by have := h.lt; omega, by omega, ?_, ?_⟩
  · rw [List.take_succ_eq_append_getElem (by simpa using hi), List.take_succ_eq_append_getElem hj, List.filter_append, List.take_set_of_le (Nat.le_refl i), h.done]
    simp [keepV, hk]
  · have := h.lt
    rw [List.drop_set_of_lt (by omega), ← List.drop_drop, h.rest]
    rw [List.drop_drop]
theorem Dl.skip {l m : List Vl} {i j : Nat} (h : Dl l m i j) (hj : j < l.length) (hk : l[j].k = 0) : Dl l m i (j + 1) := by
  refine ⟨h.len, by have := h.lt; omega, by omega, ?_, ?_⟩
  · rw [List.take_succ_eq_append_getElem hj, List.filter_append, h.done]
    simp [keepV, hk]
  · rw [← List.drop_drop, h.rest, List.drop_drop]

theorem first_or (l : List Vl) : (∀ v ∈ l, v.k ≠ 0) ∨ ∃ j : Nat, ∃ h : j < l.length, l[j].k = 0 ∧ ∀ v ∈ l.take j, v.k ≠ 0 := by
  induction l with
  | nil => exact .inl (by simp)
  | cons a l ih =>
    by_cases ha : a.k = 0
    · exact .inr ⟨0, by simp, by simpa using ha, by simp⟩
    · rcases ih with h | ⟨j, h, h1, h2⟩
      · exact .inl (by simpa using ⟨ha, h⟩)
      · exact .inr ⟨j + 1, by simpa using h, by simpa using h1, by simpa using ⟨ha, h2⟩⟩
theorem filter_all {l : List Vl} (h : ∀ v ∈ l, v.k ≠ 0) : l.filter keepV = l := List.filter_eq_self.2 fun v hv => by simp [keepV, h v hv]
theorem index_no (ad : Addr) (n c : Nat) (l : List Vl) (w : World) (hl : n = l.length) (hr : RdL w (some ad) l) (hn : n ≤ 9223372036854775807) (h : ∀ v ∈ l, v.k ≠ 0) :
    Calls Try.prog 28 #[.slice (some ad) n c, .func (.func 16) #[] #[]] w fun e w' => e = .returned (.int .i64 (-1)) ∧ Below w.heap.size w w' :=
  (index_any ad n c l w hl hr hn).mono fun e w' ⟨r, h1, h2, h3⟩ => by
    rcases h2 with ⟨rfl, _⟩ | ⟨j, hj, rfl, h4, _⟩
    · exact ⟨h1, h3⟩
    · exact absurd h4 (h _ (List.getElem_mem hj))
theorem index_yes (ad : Addr) (n c : Nat) (l : List Vl) (w : World) (hl : n = l.length) (hr : RdL w (some ad) l) (hn : n ≤ 9223372036854775807) (k0 : Nat) (hk : k0 < l.length) (hz : l[k0].k = 0) (hno : ∀ v ∈ l.take k0, v.k ≠ 0) :
    Calls Try.prog 28 #[.slice (some ad) n c, .func (.func 16) #[] #[]] w fun e w' => e = .returned (.int .i64 k0) ∧ Below w.heap.size w w' :=
  (index_any ad n c l w hl hr hn).mono fun e w' ⟨r, h1, h2, h3⟩ => by
    rcases h2 with ⟨rfl, h4⟩ | ⟨j, hj, rfl, h4, h5⟩
    · exact absurd hz (h4 _ (List.getElem_mem hk))
    · refine ⟨?_, h3⟩
      have hjk : j = k0 := by
        rcases Nat.lt_trichotomy j k0 with h6 | h6 | h6
        · exact absurd h4 (hno _ (List.mem_take_iff_getElem.2 ⟨j, by omega, rfl⟩))
        · exact h6
        · exact absurd hz (h5 _ (List.mem_take_iff_getElem.2 ⟨k0, by omega, rfl⟩))
      rw [h1, hjk]

set_option maxHeartbeats 2000000 in
theorem delete_none (ad : Addr) (n c : Nat) (l : List Vl) (w : World) (hl : n = l.length) (hr : RdL w (some ad) l) (hn : n ≤ 9223372036854775807) (h : ∀ v ∈ l, v.k ≠ 0) :
    Calls Try.prog 14 #[.slice (some ad) n c, .func (.func 16) #[] #[]] w fun e w' => e = .returned (.slice (some ad) n c) ∧ Below w.heap.size w w' := by
  have hi := index_no ad n c l w hl hr hn h
  clear hr h hl
  go_enter Try.func14, Try.ntmps14
  go_wp2_with (go_at_call 28; refine hi.mono ?_; rintro e w1 ⟨rfl, hb⟩)
  go_ret
  exact ⟨rfl, hb⟩
theorem delete_nil (w : World) :
    Calls Try.prog 14 #[.slice none 0 0, .func (.func 16) #[] #[]] w fun e w' => e = .returned (.slice none 0 0) ∧ w = w' := by
  have hi := fun w => index_nil none 0 w (.func (.func 16) #[] #[])
  go_enter Try.func14, Try.ntmps14
  go_wp2_with (go_at_call 28; refine (hi _).mono ?_; rintro e w1 ⟨rfl, rfl⟩)
  go_ret
  exact ⟨rfl, rfl⟩

theorem box_after {wr w2 : World} {a b c : Value} {t : TypeId} (hb : Below (wr.alloc (.cells #[a, b, c] t)).heap.size (wr.alloc (.cells #[a, b, c] t)) w2) :
    w2.cell? ⟨wr.heap.size, 0, none⟩ = some a ∧ w2.cell? ⟨wr.heap.size, 1, none⟩ = some b ∧ w2.cell? ⟨wr.heap.size, 2, none⟩ = some c ∧ Below wr.heap.size wr w2 ∧ wr.heap.size < w2.heap.size := by
  have hz := hb.size
  simp only [World.size_alloc] at hz
  refine ⟨?_, ?_, ?_, (below1 _ _).trans (hb.mono (by simp)), by omega⟩
  · rw [hb.cell (p := ⟨wr.heap.size, 0, none⟩) (by simp), cell_last _ _ _ _ _ rfl]; rfl
  · rw [hb.cell (p := ⟨wr.heap.size, 1, none⟩) (by simp), cell_last _ _ _ _ _ rfl]; rfl
  · rw [hb.cell (p := ⟨wr.heap.size, 2, none⟩) (by simp), cell_last _ _ _ _ _ rfl]; rfl

/-- The cells of n zero values. -/
def zeros (n : Nat) : List Value := (Builtin.zeroCells #[.int .i64 0, .int .i64 0, .string ⟨#[]⟩] n).toList
theorem zeros_len (n : Nat) : (zeros n).length = n * 3 := by simp [zeros, Builtin.zeroCells]
theorem zeros_one (n : Nat) : ∀ v ∈ zeros n, v.oneCell' = true := by
  intro v hv
  simp only [zeros, Builtin.zeroCells, Array.toList_map, List.mem_map] at hv
  obtain ⟨i, _, rfl⟩ := hv
  have h : i % 3 = 0 ∨ i % 3 = 1 ∨ i % 3 = 2 := by omega
  rcases h with h | h | h
  all_goals simp [h, Value.oneCell']
theorem run_clear3 (w : World) (g o n c : Nat) (hn : 0 < n) (h : w.there g o (n * 3)) :
    (Builtin.clear_ #[27] 0 #[.slice (some ⟨g, o, none⟩) n c]).run Try.prog w = .ok (.tuple #[]) (w.setCells g o (zeros n)) := by
  have hst := run_storeCells_cells (P := Try.prog) g o (zeros n) 0 w (fun j hj => by rw [zeros_len] at hj; simpa using (h j hj).1) (fun j hj => by rw [zeros_len] at hj; simpa using (h j hj).2) (zeros_one n)
  simp only [Nat.add_zero] at hst
  obtain ⟨m, rfl⟩ : ∃ m, n = m + 1 := ⟨n - 1, by omega⟩
  have hz : ((Value.agg #[.int .i64 0, .int .i64 0, .string ⟨#[]⟩]).cells) = #[.int .i64 0, .int .i64 0, .string ⟨#[]⟩] := rfl
  have hu := run_underlying Try.underlying27
  have hv := Try.zeroValue23
  unfold zeros at hst ⊢
  simp [Builtin.clear_, hu, hv, hz, hst]

theorem Row.cut {w : World} {g i : Nat} {m : List Vl} (h : Row w g m) (vs : List Value) (hi : i ≤ m.length) : RdL (w.setCells g (i * 3) vs) (some ⟨g, 0, none⟩) (m.take i) := fun _ => ⟨_, rfl, fun j v hj => by
  have hji : j < i := by
    have := (List.getElem?_eq_some_iff.1 hj).1
    simp at this; omega
  rw [List.getElem?_take_of_lt hji] at hj
  obtain ⟨_, e, hc⟩ := h.rd (by intro e; subst e; simp at hj)
  injection e with e
  subst e
  have h1 := hc j v hj
  rw [add_lit, Nat.zero_add] at h1 ⊢
  have o := fun r => World.cell?_setCells_out g vs (i * 3) w ⟨g, r, none⟩
  exact ⟨(o _ fun _ _ => by simp; omega).trans h1.1, (o _ fun _ _ => by simp; omega).trans h1.2.1, (o _ fun _ _ => by simp; omega).trans h1.2.2⟩⟩

set_option maxHeartbeats 2000000 in
theorem delete_loop (g n c B : Nat) (l : List Vl) (w : World) (hl : n = l.length) (hr : Row w g l) (hn : n ≤ 9223372036854775807) (hc : n ≤ c) (hB : B ≤ g) (hBw : B ≤ w.heap.size) (k0 : Nat) (hk : k0 < n) (hz : (l[k0]'(by omega)).k = 0) (hno : ∀ v ∈ l.take k0, v.k ≠ 0) :
    Calls Try.prog 14 #[.slice (some ⟨g, 0, none⟩) n c, .func (.func 16) #[] #[]] w fun e w' => e = .returned (.slice (some ⟨g, 0, none⟩) (l.filter keepV).length c) ∧ RdL w' (some ⟨g, 0, none⟩) (l.filter keepV) ∧ Below B w w' := by
  subst hl
  have hi := index_yes ⟨g, 0, none⟩ l.length c l w rfl hr.rd hn k0 hk hz hno
  have hs : Dl l l k0 (k0 + 1) := ⟨rfl, by omega, by omega, by rw [List.take_succ_eq_append_getElem hk, List.filter_append, filter_all hno]; simp [keepV, hz], rfl⟩
  have HR := Lib.hid hr
  have HS := Lib.hid hs
  clear hr hz hno hs
  go_enter Try.func14, Try.ntmps14
  go_wp2_with (go_at_call 28; refine hi.mono ?_; rintro e w1 ⟨rfl, hb⟩)
  have HB0 := Lib.hid hb
  clear hb hi
  go_loopw [5, 6, 7] (fun a b _ wr => ∃ i j : Nat, ∃ m : List Vl, a = .int .i64 i ∧ b = .int .i64 j ∧ Dl l m i j ∧ Row wr g m ∧ Below B w wr) (fun _ b _ _ => l.length - (intOf b).toNat)
  case atStart => exact ⟨k0, k0 + 1, l, rfl, by go_num, HS.out, HR.out.below HB0.out, HB0.out.mono hBw⟩
  case round =>
    obtain ⟨i, j, m, rfl, rfl, hD, hW, hB'⟩ := hrel
    have hlt0 := hD.lt
    have hle := hD.le
    have hml := Lib.hid hD.len
    have HD := Lib.hid hD
    have HW := Lib.hid hW
    have HB := Lib.hid hB'
    clear hD hW hB'
    by_cases hlt : j < l.length
    · have e0 := Lib.hid (HD.out.get hlt)
      obtain ⟨c0, c1, c2, f0, f1, f2⟩ := HW.out.at_ (j := j) (by have := hml.out; omega)
      rw [e0.out] at c0 c1 c2
      clear f0 f1 f2
      obtain ⟨d0, d1, d2, f0, f1, f2⟩ := HW.out.at_ (j := i) (by have := hml.out; omega)
      have hg := cell_lt c0
      by_cases hk : l[j].k = 0
      · go_wp2_with (go_at_call 16; refine (isNull_any _ _ _ _).mono ?_; rintro e w2 ⟨rfl, hb⟩)
        obtain ⟨_, _, _, hb', _⟩ := box_after hb
        go_roundw
        case rel => (repeat apply Exists.intro); exact ⟨⟨i, j + 1, m, rfl, by go_num, HD.out.skip hlt hk, HW.out.below hb', HB.out.trans (hb'.mono (by omega))⟩, rfl⟩
        case measure => simp [intOf]; omega
      · clear d0 d1 d2 f0 f1 f2
        go_wp2_with (go_at_call 16; refine (isNull_any _ _ _ _).mono ?_; rintro e w2 ⟨rfl, hb⟩; obtain ⟨b0, b1, b2, hb', hz⟩ := box_after hb; have HB' := Lib.hid hb'; clear hb hb'; obtain ⟨d0, d1, d2, f0, f1, f2⟩ := (HW.out.below HB'.out).at_ (j := i) (by have := hml.out; omega))
        have hi : i < m.length := by have := hml.out; omega
        go_roundw
        case rel =>
          (repeat apply Exists.intro)
          exact ⟨⟨i + 1, j + 1, m.set i l[j], by go_num, by go_num, HD.out.keep hlt hk, (HW.out.below HB'.out).set l[j] hi, below_cells hB (valC l[j]) (i * 3) (HB.out.trans (HB'.out.mono (by omega)))⟩, rfl⟩
        case measure => simp [intOf]; omega
    · have hcl := run_clear3 wr g (i * 3) (l.length - i) (c - i) (by omega) (fun t ht => by
        have := HW.out.there (i * 3 + t) (by have := hml.out; omega)
        rwa [Nat.zero_add] at this)
      go_wp2
      go_ret
      have e : j = l.length := by omega
      subst e
      have hd := HD.out.done
      rw [List.take_length] at hd
      have hi : i ≤ m.length := by have := hml.out; omega
      rw [← hd]
      refine ⟨?_, HW.out.cut _ hi, below_cells hB _ _ HB.out⟩
      rw [List.length_take, Nat.min_eq_left hi]
      rfl

/-- DeleteFunc of a list of the call's own. -/
theorem delete_any (v : Value) (n B : Nat) (l : List Vl) (w : World) (h : w.ownsRow B 23 3 v n (vals l)) (hBw : B ≤ w.heap.size) (hn : n ≤ 9223372036854775807) :
    Calls Try.prog 14 #[v, .func (.func 16) #[] #[]] w fun e w' => ∃ A c, e = .returned (.slice A (l.filter keepV).length c) ∧ RdL w' A (l.filter keepV) ∧ Below B w w' := by
  have hl : n = l.length := by have := h.1; rw [vals_len] at this; omega
  rcases h.2 with ⟨rfl, h0⟩ | ⟨g, cap, cur, rfl, hb, hg, hc, hm, hs, ht⟩
  · have e : l = [] := List.eq_nil_of_length_eq_zero (by omega)
    subst e
    exact (delete_nil w).mono fun e w' ⟨h1, h2⟩ => ⟨none, 0, h1, fun h => absurd rfl h, h2 ▸ Below.refl _ _⟩
  · have hrow : Row w g l := by
      refine ⟨fun j u hj => ?_, fun j hj => ?_⟩
      · have hj' : j < n * 3 := by rw [hl, ← vals_len]; exact (List.getElem?_eq_some_iff.1 hj).1
        rw [Nat.zero_add, h.cellAt j hj', hj]
      · have hj' : j < n * 3 := by rw [hl]; exact hj
        have hj2 : j < (vals l).length := by rw [vals_len]; exact hj
        refine ⟨?_, ?_⟩
        · rw [Nat.zero_add, h.cellAt j hj', List.getElem?_eq_getElem hj2]; rfl
        · rw [Nat.zero_add]
          unfold World.frozen?
          rw [hg]
          simp
    rcases first_or l with hno | ⟨k0, hk, hz, hno⟩
    · refine (delete_none ⟨g, 0, none⟩ n cap l w hl hrow.rd hn hno).mono fun e w' ⟨h1, h2⟩ => ⟨some ⟨g, 0, none⟩, cap, ?_, ?_, h2.mono hBw⟩
      · rw [filter_all hno, ← hl]; exact h1
      · rw [filter_all hno]; exact hrow.rd.below h2
    · exact (delete_loop g n cap B l w hl hrow hn hc hb hBw k0 (by omega) hz hno).mono fun e w' ⟨h1, h2, h3⟩ => ⟨_, _, h1, h2, h3⟩

end Go.Proofs.Ytjogpcffldkhlaa
