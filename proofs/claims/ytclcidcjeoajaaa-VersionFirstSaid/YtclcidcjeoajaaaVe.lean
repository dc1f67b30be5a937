/- What fresh of package version makes of a chain: the walk. Conditions: a chain of at most 65 versions that is read in memory. -/
import Derived.Test.YtclcidcjeoajaaaVd
namespace Go.Proofs.Ytclcidcjeoajaaa
open Go.RowKit
set_option linter.unusedSimpArgs false
set_option linter.unusedVariables false

/-- The row of block g holds the chain m, and may be written. -/
structure Row (w : World) (g : Nat) (m : List Ver) : Prop where
  cells : w.rangeAt g 0 (vers m)
  there : w.there g 0 (m.length * 4)
theorem Row.cell4 {w : World} {g : Nat} {m : List Ver} (h : Row w g m) {j : Nat} {v : Ver} (hj : m[j]? = some v) : Cell4 w ⟨g, j * 4, none⟩ v := by
  have hx : ∀ i x, (verC v)[i]? = some x → i < 4 → w.cell? ⟨g, j * 4 + i, none⟩ = some x := fun i x hi hlt => by
    have h1 := h.cells (j * 4 + i) x ((flat_get m j i v hj hlt).trans hi)
    rwa [Nat.zero_add] at h1
  exact ⟨hx 0 _ rfl (by omega), hx 1 _ rfl (by omega), hx 2 _ rfl (by omega), hx 3 _ rfl (by omega)⟩
theorem Row.rd {w : World} {g n : Nat} {m : List Ver} (h : Row w g m) (hn : m.length = n) (hc : n ≤ 9223372036854775807) : Rd w (some ⟨g, 0, none⟩) n n m :=
  ⟨hn, Nat.le_refl _, hc, (fun e => by cases e), fun ad e j v hj => by
    injection e with e
    subst e
    rw [add_lit, Nat.zero_add]
    exact h.cell4 hj⟩
theorem Row.at_ {w : World} {g : Nat} {m : List Ver} {j : Nat} (h : Row w g m) (hj : j < m.length) :
    w.cell? ⟨g, j * 4, none⟩ = some (.int .i64 m[j].t) ∧ w.cell? ⟨g, j * 4 + 1, none⟩ = some (.int .i64 m[j].x) ∧ w.cell? ⟨g, j * 4 + 2, none⟩ = some (.bool m[j].g) ∧ w.cell? ⟨g, j * 4 + 3, none⟩ = some (.string m[j].v) ∧
    w.frozen? ⟨g, j * 4, none⟩ = false ∧ w.frozen? ⟨g, j * 4 + 1, none⟩ = false ∧ w.frozen? ⟨g, j * 4 + 2, none⟩ = false ∧ w.frozen? ⟨g, j * 4 + 3, none⟩ = false := by
  obtain ⟨h0, h1, h2, h3⟩ := h.cell4 (List.getElem?_eq_getElem hj)
  have t0 := (h.there (j * 4) (by omega)).2
  have t1 := (h.there (j * 4 + 1) (by omega)).2
  have t2 := (h.there (j * 4 + 2) (by omega)).2
  have t3 := (h.there (j * 4 + 3) (by omega)).2
  rw [Nat.zero_add] at t0 t1 t2 t3
  exact ⟨h0, h1, h2, h3, t0, t1, t2, t3⟩
theorem Row.att {w : World} {g : Nat} {m : List Ver} {j : Nat} (h : Row w g m) (hj : j < m.length) : ∃ z : Ver,
    w.cell? ⟨g, j * 4, none⟩ = some (.int .i64 z.t) ∧ w.cell? ⟨g, j * 4 + 1, none⟩ = some (.int .i64 z.x) ∧ w.cell? ⟨g, j * 4 + 2, none⟩ = some (.bool z.g) ∧ w.cell? ⟨g, j * 4 + 3, none⟩ = some (.string z.v) ∧
    w.frozen? ⟨g, j * 4, none⟩ = false ∧ w.frozen? ⟨g, j * 4 + 1, none⟩ = false ∧ w.frozen? ⟨g, j * 4 + 2, none⟩ = false ∧ w.frozen? ⟨g, j * 4 + 3, none⟩ = false := ⟨_, h.at_ hj⟩
theorem Row.lt {w : World} {g : Nat} {m : List Ver} (h : Row w g m) (hm : 0 < m.length) : g < w.heap.size := by
  obtain ⟨v, hv⟩ := Option.isSome_iff_exists.1 (h.there 0 (by omega)).1
  exact cell_lt hv
theorem Row.below {w w' : World} {g : Nat} {m : List Ver} (h : Row w g m) (hb : Below w.heap.size w w') : Row w' g m := by
  by_cases hm : 0 < m.length
  · have hg := h.lt hm
    refine ⟨fun j v hj => (hb.cell (p := ⟨g, 0 + j, none⟩) hg).trans (h.cells j v hj), fun j hj => ?_⟩
    have h1 := h.there j hj
    rw [← hb.cell (p := ⟨g, 0 + j, none⟩) hg, ← hb.frozen (p := ⟨g, 0 + j, none⟩) hg] at h1
    exact h1
  · have e : m = [] := List.eq_nil_of_length_eq_zero (by omega)
    subst e
    exact ⟨fun j v hj => by simp [vers] at hj, fun j hj => by simp at hj⟩
theorem Row.other {w : World} {g : Nat} {m : List Ver} (h : Row w g m) (p : Addr) (v : Value) (hp : p.block ≠ g) : Row (w.setCell p v) g m := by
  refine ⟨fun j u hj => ?_, fun j hj => ?_⟩
  · rw [World.cell?_setCell_other w p ⟨g, 0 + j, none⟩ v (fun e => hp (by rw [e]))]
    exact h.cells j u hj
  · have h1 := h.there j hj
    rw [World.cell?_setCell_other w p ⟨g, 0 + j, none⟩ v (fun e => hp (by rw [e]))]
    exact ⟨h1.1, by rw [World.frozen?_setCell]; exact h1.2⟩
theorem vers_set (m : List Ver) (i : Nat) (v : Ver) (hi : i < m.length) : ∀ j, (vers (m.set i v))[j]? = if i * 4 ≤ j ∧ j < i * 4 + 4 then (verC v)[j - i * 4]? else (vers m)[j]? := by
  intro j
  by_cases hj : j < m.length * 4
  · obtain ⟨q, r, rfl, hr⟩ : ∃ q r, j = q * 4 + r ∧ r < 4 := ⟨j / 4, j % 4, by omega, by omega⟩
    have hq : q < m.length := by omega
    by_cases hqi : q = i
    · subst hqi
      rw [if_pos (by omega)]
      have := flat_get (m.set q v) q r v (by simp [hq]) hr
      have e : q * 4 + r - q * 4 = r := by omega
      rw [e]
      exact this
    · rw [if_neg (by omega)]
      have h1 := flat_get (m.set i v) q r m[q] (by rw [List.getElem?_set_ne (by omega)]; exact List.getElem?_eq_getElem hq) hr
      have h2 := flat_get m q r m[q] (List.getElem?_eq_getElem hq) hr
      exact h1.trans h2.symm
  · rw [if_neg (by omega), List.getElem?_eq_none (by rw [vers_len]; simp; omega), List.getElem?_eq_none (by rw [vers_len]; omega)]
theorem Row.set {w : World} {g i : Nat} {m : List Ver} (h : Row w g m) (v : Ver) (hi : i < m.length) : Row (w.setCells g (i * 4) (verC v)) g (m.set i v) := by
  refine ⟨fun j u hj => ?_, ?_⟩
  · rw [vers_set m i v hi] at hj
    split at hj
    · rename_i hr
      have hs := World.cell?_setCells_in g (verC v) (i * 4) w (fun t ht => by
        have := (h.there (i * 4 + t) (by simp [verC] at ht; omega)).1
        rwa [Nat.zero_add] at this) (j - i * 4) (by simp [verC]; omega)
      have e : i * 4 + (j - i * 4) = 0 + j := by omega
      rw [e] at hs
      rw [hs, ← hj, List.getElem?_eq_getElem]
    · rename_i hr
      rw [World.cell?_setCells_out g (verC v) (i * 4) w ⟨g, 0 + j, none⟩ (fun _ _ => by simp [verC]; omega)]
      exact h.cells j u hj
  · rw [List.length_set]
    exact World.there_setCells h.there _ _ _
theorem below_cells {B g : Nat} (hB : B ≤ g) : ∀ (vs : List Value) (o : Nat) {a w : World}, Below B a w → Below B a (w.setCells g o vs)
  | [], _, _, _, h => h
  | v :: r, o, a, w, h => below_cells hB r (o + 1) (h.setCell (by omega) v)
def zV : Ver := ⟨0, 0, false, ⟨#[]⟩, by decide⟩
theorem made (n : Nat) : (madeCells #[.int .i64 0, .int .i64 0, .bool false, .string ⟨#[]⟩] (n * 4)).toList = vers (List.replicate n zV) := by
  refine List.ext_getElem? fun j => ?_
  by_cases hj : j < n * 4
  · obtain ⟨q, r, rfl, hr⟩ : ∃ q r, j = q * 4 + r ∧ r < 4 := ⟨j / 4, j % 4, by omega, by omega⟩
    rw [flat_get _ q r zV (by rw [List.getElem?_replicate, if_pos (by omega)]) hr]
    have e : (q * 4 + r) % 4 = r := by omega
    simp only [madeCells, Array.toList_map, Array.toList_range, List.getElem?_map, List.getElem?_range hj, Option.map_some]
    rcases (show r = 0 ∨ r = 1 ∨ r = 2 ∨ r = 3 by omega) with rfl | rfl | rfl | rfl
    all_goals simp [verC, zV, e]
  · rw [List.getElem?_eq_none (by simp [madeCells]; omega), List.getElem?_eq_none (by rw [vers_len]; simp; omega)]
theorem row_of_own {w : World} {B g n : Nat} {e : TypeId} {m : List Ver} (h : w.ownsRow B e 4 (.slice (some ⟨g, 0, none⟩) n n) n (vers m)) : Row w g m := by
  have hl : (vers m).length = n * 4 := h.1
  have hl2 := hl
  rw [vers_len] at hl2
  rcases h.2 with ⟨e, _⟩ | ⟨g', cap, cur, e, hb, hg, hc, hm, hs, ht⟩
  · cases e
  · simp only [Value.slice.injEq, Option.some.injEq, Addr.mk.injEq] at e
    obtain ⟨⟨rfl, _⟩, _, rfl⟩ := e
    refine ⟨fun j u hj => ?_, fun j hj => ?_⟩
    · have hj' : j < n * 4 := by rw [← hl]; exact (List.getElem?_eq_some_iff.1 hj).1
      rw [Nat.zero_add, h.cellAt j hj', hj]
    · have hj' : j < n * 4 := by omega
      have hj2 : j < (vers m).length := by omega
      refine ⟨?_, ?_⟩
      · rw [Nat.zero_add, h.cellAt j hj', List.getElem?_eq_getElem hj2]; rfl
      · rw [Nat.zero_add]
        unfold World.frozen?
        rw [hg]
        simp

theorem set_take {l : List Ver} {n j : Nat} (hn : l.length = n) (hj : j < n) : (l.take j ++ List.replicate (n - j) zV).set j (l[j]'(by omega)) = l.take (j + 1) ++ List.replicate (n - (j + 1)) zV := by
  have e : n - j = n - (j + 1) + 1 := by omega
  rw [e, List.replicate_succ, List.set_append_right _ _ (by simp; omega)]
  have e2 : j - (l.take j).length = 0 := by simp; omega
  rw [e2, List.set_cons_zero, List.take_succ_eq_append_getElem (by omega), List.append_assoc]
  rfl
theorem set_same {w : World} {p : Addr} {u : Value} (v : Value) (h : w.cell? p = some u) : (w.setCell p v).cell? p = some v := World.cell?_setCell_same w p v h
set_option maxRecDepth 100000 in
set_option maxHeartbeats 4000000 in
theorem fresh_any (A : Option Addr) (n c : Nat) (l : List Ver) (w : World) (hr : Rd w A n c l) (hn : n ≤ 1000000) :
    Calls Try.prog 18 #[.slice A n c] w fun e w' => ∃ g, e = .returned (.slice (some ⟨g, 0, none⟩) n n) ∧ Row w' g l ∧ w.heap.size ≤ g ∧ g < w'.heap.size ∧ Below w.heap.size w w' := by
  obtain ⟨i0, hi, hz0, hz1, hz2⟩ := info_parts Try.infoV
  have HL := Lib.hid hr.len
  have HR := Lib.hid hr
  clear hr
  go_enter Try.func18, Try.ntmps18
  go_wp2_with (refine wpList_make_full w rfl (.tmp 7) (.tmp 7) 24 rfl w.heap.size 41 i0 (.agg #[.int .i64 0, .int .i64 0, .bool false, .string ⟨#[]⟩]) 4 Try.underlying24 hi hz0 hz1 .i64 .i64 _ _ n rfl rfl rfl rfl (by rw [hz2]; omega) (by unfold maxLen; omega) (Nat.le_refl _) ?_)
  intro w1 hown hg1
  have hb1 : Below w.heap.size w w1 := (Below.refl _ _).grown hg1 (Nat.le_refl _) (fun k hk => by cases hk)
  have hgl : w.heap.size < w1.heap.size := (hown.lt w.heap.size rfl).2
  have hrow : Row w1 w.heap.size (List.replicate n zV) := row_of_own (by rw [← made n]; exact hown)
  have HRW := Lib.hid hrow
  have HB1 := Lib.hid hb1
  have HGL := Lib.hid hgl
  clear hown hg1 hb1 hgl hrow
  generalize hgg : w.heap.size = g at HRW HGL ⊢
  have HGG := Lib.hid hgg
  clear hgg
  go_wp2
  go_loopw [4, 5, 11] (fun _ _ i wr => ∃ j : Nat, j ≤ n ∧ i = .int .i64 j ∧ Row wr g (l.take j ++ List.replicate (n - j) zV) ∧ g < wr.heap.size ∧ Below w.heap.size w wr) (fun _ _ i _ => n - (intOf i).toNat)
  case atStart => exact ⟨0, by omega, rfl, by simpa using HRW.out, HGL.out, HB1.out⟩
  case round =>
    obtain ⟨j, hj, rfl, hW, hgw, hB⟩ := hrel
    have HW := Lib.hid hW
    have HB := Lib.hid hB
    have HGW := Lib.hid hgw
    clear hW hB hgw HRW HB1 HGL
    by_cases hlt : j < n
    · have hjl : j < l.length := by rw [HL.out]; exact hlt
      obtain ⟨ad, rfl, c0, c1, c2, c3⟩ := (HR.out.below HB.out).at_ hjl
      have hb0 := cell_lt c0
      rw [add_block] at hb0
      have HST := Lib.hid (set_take HL.out hlt)
      have HC := Lib.hid fun W => sClone_any l[j].v W l[j].h
      generalize l[j] = v at *
      have HJL := Lib.hid hjl
      clear hjl
      go_upto_region 6 with (go_at_call 23; (with_reducible refine (HC.out _).mono ?_); rintro e w2 ⟨rfl, hb2⟩; obtain ⟨b0, b1, b2, b3, hb2', hz2'⟩ := box4 hb2; have HB2 := Lib.hid hb2'; have f3 := (hb2.frozen (p := ⟨wr.heap.size, 3, none⟩) (by simp)); clear hb2 hb2')
      have B3 := set_same (.string v.v) b3
      have hoth := fun (p : Addr) (hp : p ≠ ⟨wr.heap.size, 3, none⟩) => World.cell?_setCell_other w2 ⟨wr.heap.size, 3, none⟩ p (.string v.v) (fun e => hp e.symm)
      have b0 := (hoth ⟨wr.heap.size, 0, none⟩ (by simp)).trans b0
      have b1 := (hoth ⟨wr.heap.size, 1, none⟩ (by simp)).trans b1
      have b2 := (hoth ⟨wr.heap.size, 2, none⟩ (by simp)).trans b2
      have hW3 := (HW.out.below HB2.out).other ⟨wr.heap.size, 3, none⟩ (.string v.v) (by have := HGW.out; simp; omega)
      have hB3 : Below wr.heap.size wr (w2.setCell ⟨wr.heap.size, 3, none⟩ (.string v.v)) := HB2.out.setCell (Nat.le_refl _) _
      clear hoth b3 hz2' f3 c0 c1 c2 c3 hb0
      generalize w2.setCell ⟨wr.heap.size, 3, none⟩ (.string v.v) = W3 at b0 b1 b2 B3 hW3 hB3 ⊢
      have HW3 := Lib.hid hW3
      have HB3 := Lib.hid hB3
      have hjn : j < (l.take j ++ List.replicate (n - j) zV).length := by have := HL.out; simp; omega
      obtain ⟨z, d0, d1, d2, d3, f0, f1, f2, f3⟩ := hW3.att hjn
      have HJN := Lib.hid hjn
      clear hW3 hB3 hjn
      have hw3 := cell_lt d0
      go_wp2
      go_roundw
      case rel => exact ⟨j + 1, hlt, by go_num, by rw [← HST.out]; exact HW3.out.set v HJN.out, by have := HB3.out.size; have := HGW.out; simp; omega, below_cells (by have := HGG.out; omega) (verC v) (j * 4) (thn HB.out HB3.out)⟩
      case measure => simp [intOf]; omega
    · obtain rfl : j = n := by omega
      go_wp2
      go_ret
      have h := HW.out
      have hl := HL.out
      have hg := HGG.out
      rw [Nat.sub_self, List.replicate_zero, List.append_nil, List.take_of_length_le (by omega)] at h
      exact ⟨g, rfl, h, by omega, HGW.out, HB.out⟩
end Go.Proofs.Ytclcidcjeoajaaa
