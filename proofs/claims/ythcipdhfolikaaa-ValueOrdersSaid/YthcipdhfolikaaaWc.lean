/- ValueOrders of the statements' package answers true for any three values: the walk. Conditions: none. -/
import Derived.Test.YthcipdhfolikaaaWa
import Derived.Deep.RegionHeld3
namespace Go.Proofs.Ythcipdhfolikaaa
open Go.RowKit
set_option linter.unusedSimpArgs false
set_option linter.unusedVariables false

/-! ### The order is an order: plain -/
theorem less_iff : ∀ (x y : List UInt8), Op.bytesLess x y = true ↔ x < y
  | [], [] => by simp [Op.bytesLess]
  | _ :: _, [] => by simp [Op.bytesLess]
  | [], _ :: _ => by simp [Op.bytesLess]
  | a :: x, b :: y => by
    have h := less_iff x y
    rw [Op.bytesLess]
    simp only [List.cons_lt_cons_iff, ← h]
    by_cases h1 : a < b <;> by_cases h2 : a = b <;> simp [h1, h2]
theorem less_trans {a b c : List UInt8} (h1 : Op.bytesLess a b = true) (h2 : Op.bytesLess b c = true) : Op.bytesLess a c = true := by
  rw [less_iff] at *; exact List.lt_trans h1 h2
theorem less_irrefl (a : List UInt8) : Op.bytesLess a a = false := by
  rw [Bool.eq_false_iff]; intro h; rw [less_iff] at h; exact List.lt_irrefl a h
theorem less_tri {a b : List UInt8} (h1 : Op.bytesLess a b = false) (h2 : Op.bytesLess b a = false) : a = b := by
  rw [Bool.eq_false_iff, ne_eq, less_iff, List.not_lt] at h1 h2
  exact List.le_antisymm h2 h1
theorem ordS_neg (s t : ByteArray) : ordS s t = -ordS t s := by
  have h1 := less_irrefl s.toList
  have h2 := @less_tri s.toList t.toList
  have h3 := @less_trans s.toList t.toList s.toList
  grind [ordS]
theorem ordS_zero (s t : ByteArray) : ordS s t = 0 ↔ s = t := by
  constructor
  · intro h
    have h1 : s.toList = t.toList := by grind [ordS]
    rw [ByteArray.toList_eq, ByteArray.toList_eq] at h1
    obtain ⟨⟨l⟩⟩ := s
    obtain ⟨⟨m⟩⟩ := t
    simp at h1
    subst h1; rfl
  · rintro rfl
    have := less_irrefl s.toList
    grind [ordS]
theorem ordS_trans (s t u : ByteArray) (h1 : ordS s t ≤ 0) (h2 : ordS t u ≤ 0) : ordS s u ≤ 0 ∧ (ordS s t < 0 ∨ ordS t u < 0 → ordS s u < 0) ∧ (ordS s t = 0 ∧ ordS t u = 0 → ordS s u = 0) := by
  have a1 := @less_trans s.toList t.toList u.toList
  have a2 := less_irrefl s.toList
  grind [ordS]
theorem ordI_zero (a b : Int) : ordI a b = 0 ↔ a = b := by unfold ordI; grind
theorem ordI_neg (a b : Int) : ordI a b = -ordI b a := by unfold ordI; grind
theorem ordI_trans (a b c : Int) (h1 : ordI a b ≤ 0) (h2 : ordI b c ≤ 0) : ordI a c ≤ 0 ∧ (ordI a b < 0 ∨ ordI b c < 0 → ordI a c < 0) ∧ (ordI a b = 0 ∧ ordI b c = 0 → ordI a c = 0) := by unfold ordI at *; grind

theorem ordV_neg (k n : Int) (s : ByteArray) (k' n' : Int) (s' : ByteArray) : ordV k n s k' n' s' = -ordV k' n' s' k n s := by
  have h1 := ordI_neg k k'
  have h2 := ordI_neg n n'
  have h3 := ordS_neg s s'
  grind [ordV]
theorem empt_of {k n : Int} {s : ByteArray} (h : mayB k n s = true) (h3 : k ≠ 3) : s = ⟨#[]⟩ := by
  apply empty_of_isEmpty
  grind [mayB]
theorem ordV_zero {k n : Int} {s : ByteArray} {k' n' : Int} {s' : ByteArray} (h : mayB k n s = true) (h' : mayB k' n' s' = true) : ordV k n s k' n' s' = 0 ↔ (k = k' ∧ n = n' ∧ s = s') := by
  have h1 := ordI_zero k k'
  have h2 := ordI_zero n n'
  have h3 := ordS_zero s s'
  have h4 := @empt_of k n s h
  have h5 := @empt_of k' n' s' h'
  have h6 : k = 0 → n = 0 := by grind [mayB]
  have h7 : k' = 0 → n' = 0 := by grind [mayB]
  have h8 : k = 3 → n = 0 := by grind [mayB]
  have h9 : k' = 3 → n' = 0 := by grind [mayB]
  have r := mayB_range h
  have r' := mayB_range h'
  grind [ordV]
theorem ordV_trans (k n : Int) (s : ByteArray) (k' n' : Int) (s' : ByteArray) (k2 n2 : Int) (s2 : ByteArray) (h1 : ordV k n s k' n' s' ≤ 0) (h2 : ordV k' n' s' k2 n2 s2 ≤ 0) :
    ordV k n s k2 n2 s2 ≤ 0 ∧ (ordV k n s k' n' s' < 0 ∨ ordV k' n' s' k2 n2 s2 < 0 ∨ ordV k n s k2 n2 s2 = 0) := by
  have a1 := ordI_trans k k' k2
  have a2 := ordI_trans n n' n2
  have a3 := ordS_trans s s' s2
  have z1 := ordI_zero k k'
  have z2 := ordI_zero k' k2
  have z3 := ordI_zero k k2
  grind [ordV]

theorem check_lit (k n : Int) (s : ByteArray) (c : Int) (h : Hid (checkN k n s = c)) (w : World) :
    Calls Try.prog 13 #[.agg #[.int .i64 k, .int .i64 n, .string s]] w fun e w' => e = .returned (.int .i64 c) ∧ Below w.heap.size w w' := (check_any k n s w).mono fun _ _ ⟨h1, h2⟩ => ⟨by rw [h1, h.out], h2⟩
theorem rCheck_lit3 (k n : Int) (s : ByteArray) (c : Int) (h : Hid (checkN k n s = c)) (w : World) :
    Calls Try.prog 14 #[.agg #[.int .i64 k, .int .i64 n, .string s]] w fun e w' => e = .returned (.int .i64 c) ∧ Below w.heap.size w w' := (rCheck_any k n s w).mono fun _ _ ⟨h1, h2⟩ => ⟨by rw [h1, h.out], h2⟩
theorem order_lit (k n : Int) (s : ByteArray) (k' n' : Int) (s' : ByteArray) (c : Int) (h : Hid (ordV k n s k' n' s' = c)) (w : World) :
    Calls Try.prog 15 #[.agg #[.int .i64 k, .int .i64 n, .string s], .agg #[.int .i64 k', .int .i64 n', .string s']] w fun e w' => e = .returned (.int .i64 c) ∧ Below w.heap.size w w' := (order_any k n s k' n' s' w).mono fun _ _ ⟨h1, h2⟩ => ⟨by rw [h1, h.out], h2⟩
theorem three_boxes (k n : Int) (s : ByteArray) (k' n' : Int) (s' : ByteArray) (k2 n2 : Int) (s2 : ByteArray) (w : World) :
    (w.heap.size < (((w.alloc (.cells #[.int .i64 k, .int .i64 n, .string s] 23)).alloc (.cells #[.int .i64 k', .int .i64 n', .string s'] 23)).alloc (.cells #[.int .i64 k2, .int .i64 n2, .string s2] 23)).heap.size ∧ (((w.alloc (.cells #[.int .i64 k, .int .i64 n, .string s] 23)).alloc (.cells #[.int .i64 k', .int .i64 n', .string s'] 23)).alloc (.cells #[.int .i64 k2, .int .i64 n2, .string s2] 23)).cell? ⟨w.heap.size, 0, none⟩ = some (.int .i64 k) ∧ (((w.alloc (.cells #[.int .i64 k, .int .i64 n, .string s] 23)).alloc (.cells #[.int .i64 k', .int .i64 n', .string s'] 23)).alloc (.cells #[.int .i64 k2, .int .i64 n2, .string s2] 23)).cell? ⟨w.heap.size, 1, none⟩ = some (.int .i64 n) ∧ (((w.alloc (.cells #[.int .i64 k, .int .i64 n, .string s] 23)).alloc (.cells #[.int .i64 k', .int .i64 n', .string s'] 23)).alloc (.cells #[.int .i64 k2, .int .i64 n2, .string s2] 23)).cell? ⟨w.heap.size, 2, none⟩ = some (.string s)) ∧ (w.heap.size + 1 < (((w.alloc (.cells #[.int .i64 k, .int .i64 n, .string s] 23)).alloc (.cells #[.int .i64 k', .int .i64 n', .string s'] 23)).alloc (.cells #[.int .i64 k2, .int .i64 n2, .string s2] 23)).heap.size ∧ (((w.alloc (.cells #[.int .i64 k, .int .i64 n, .string s] 23)).alloc (.cells #[.int .i64 k', .int .i64 n', .string s'] 23)).alloc (.cells #[.int .i64 k2, .int .i64 n2, .string s2] 23)).cell? ⟨w.heap.size + 1, 0, none⟩ = some (.int .i64 k') ∧ (((w.alloc (.cells #[.int .i64 k, .int .i64 n, .string s] 23)).alloc (.cells #[.int .i64 k', .int .i64 n', .string s'] 23)).alloc (.cells #[.int .i64 k2, .int .i64 n2, .string s2] 23)).cell? ⟨w.heap.size + 1, 1, none⟩ = some (.int .i64 n') ∧ (((w.alloc (.cells #[.int .i64 k, .int .i64 n, .string s] 23)).alloc (.cells #[.int .i64 k', .int .i64 n', .string s'] 23)).alloc (.cells #[.int .i64 k2, .int .i64 n2, .string s2] 23)).cell? ⟨w.heap.size + 1, 2, none⟩ = some (.string s')) ∧ (w.heap.size + 1 + 1 < (((w.alloc (.cells #[.int .i64 k, .int .i64 n, .string s] 23)).alloc (.cells #[.int .i64 k', .int .i64 n', .string s'] 23)).alloc (.cells #[.int .i64 k2, .int .i64 n2, .string s2] 23)).heap.size ∧ (((w.alloc (.cells #[.int .i64 k, .int .i64 n, .string s] 23)).alloc (.cells #[.int .i64 k', .int .i64 n', .string s'] 23)).alloc (.cells #[.int .i64 k2, .int .i64 n2, .string s2] 23)).cell? ⟨w.heap.size + 1 + 1, 0, none⟩ = some (.int .i64 k2) ∧ (((w.alloc (.cells #[.int .i64 k, .int .i64 n, .string s] 23)).alloc (.cells #[.int .i64 k', .int .i64 n', .string s'] 23)).alloc (.cells #[.int .i64 k2, .int .i64 n2, .string s2] 23)).cell? ⟨w.heap.size + 1 + 1, 1, none⟩ = some (.int .i64 n2) ∧ (((w.alloc (.cells #[.int .i64 k, .int .i64 n, .string s] 23)).alloc (.cells #[.int .i64 k', .int .i64 n', .string s'] 23)).alloc (.cells #[.int .i64 k2, .int .i64 n2, .string s2] 23)).cell? ⟨w.heap.size + 1 + 1, 2, none⟩ = some (.string s2)) ∧ Below w.heap.size w (((w.alloc (.cells #[.int .i64 k, .int .i64 n, .string s] 23)).alloc (.cells #[.int .i64 k', .int .i64 n', .string s'] 23)).alloc (.cells #[.int .i64 k2, .int .i64 n2, .string s2] 23)) :=
  ⟨keep3 (below1 _ _) (keep3 (below1 _ _) (new3 k n s w)), keep3 (below1 _ _) ⟨by simp, by rw [cell_last _ _ _ _ _ (by simp)]; rfl, by rw [cell_last _ _ _ _ _ (by simp)]; rfl, by rw [cell_last _ _ _ _ _ (by simp)]; rfl⟩,
   ⟨by simp, by rw [cell_last _ _ _ _ _ (by simp)]; rfl, by rw [cell_last _ _ _ _ _ (by simp)]; rfl, by rw [cell_last _ _ _ _ _ (by simp)]; rfl⟩, (below2 _ _ _).alloc (by simp; omega) _⟩

theorem toList_inj {s t : ByteArray} (h1 : s.toList = t.toList) : s = t := by
  rw [ByteArray.toList_eq, ByteArray.toList_eq] at h1
  obtain ⟨⟨l⟩⟩ := s
  obtain ⟨⟨m⟩⟩ := t
  simp at h1
  subst h1; rfl
theorem ordV_trans2 (k n : Int) (s : ByteArray) (k' n' : Int) (s' : ByteArray) (k2 n2 : Int) (s2 : ByteArray) (h1 : ordV k n s k' n' s' ≤ 0) (h2 : ordV k' n' s' k2 n2 s2 ≤ 0) :
    ordV k n s k2 n2 s2 ≤ 0 ∧ ((ordV k n s k' n' s' < 0 ∨ ordV k' n' s' k2 n2 s2 < 0) ↔ ordV k n s k2 n2 s2 < 0) := by
  have a1 := ordI_trans k k' k2
  have a2 := ordI_trans n n' n2
  have a3 := ordS_trans s s' s2
  have z1 := ordI_zero k k'
  have z2 := ordI_zero k' k2
  have z3 := ordI_zero k k2
  grind [ordV]
theorem ordV_bd (k n : Int) (s : ByteArray) (k' n' : Int) (s' : ByteArray) : ordV k n s k' n' s' = -1 ∨ ordV k n s k' n' s' = 0 ∨ ordV k n s k' n' s' = 1 := by
  have a1 := ordI_bd k k'
  have a2 := ordI_bd n n'
  have a3 := ordS_bd s s'
  have h : -1 ≤ ordV k n s k' n' s' ∧ ordV k n s k' n' s' ≤ 1 := by grind [ordV]
  omega
theorem keepB {k n : Int} {s : ByteArray} {k' n' : Int} {s' : ByteArray} {k2 n2 : Int} {s2 : ByteArray} {w W w' : World} (hb : Below W.heap.size W w')
    (h : w.heap.size < W.heap.size ∧ W.cell? ⟨w.heap.size, 0, none⟩ = some (.int .i64 k) ∧ W.cell? ⟨w.heap.size, 1, none⟩ = some (.int .i64 n) ∧ W.cell? ⟨w.heap.size, 2, none⟩ = some (.string s) ∧ w.heap.size + 1 < W.heap.size ∧ W.cell? ⟨w.heap.size + 1, 0, none⟩ = some (.int .i64 k') ∧ W.cell? ⟨w.heap.size + 1, 1, none⟩ = some (.int .i64 n') ∧ W.cell? ⟨w.heap.size + 1, 2, none⟩ = some (.string s') ∧ w.heap.size + 1 + 1 < W.heap.size ∧ W.cell? ⟨w.heap.size + 1 + 1, 0, none⟩ = some (.int .i64 k2) ∧ W.cell? ⟨w.heap.size + 1 + 1, 1, none⟩ = some (.int .i64 n2) ∧ W.cell? ⟨w.heap.size + 1 + 1, 2, none⟩ = some (.string s2) ∧ Below w.heap.size w W) : w.heap.size < w'.heap.size ∧ w'.cell? ⟨w.heap.size, 0, none⟩ = some (.int .i64 k) ∧ w'.cell? ⟨w.heap.size, 1, none⟩ = some (.int .i64 n) ∧ w'.cell? ⟨w.heap.size, 2, none⟩ = some (.string s) ∧ w.heap.size + 1 < w'.heap.size ∧ w'.cell? ⟨w.heap.size + 1, 0, none⟩ = some (.int .i64 k') ∧ w'.cell? ⟨w.heap.size + 1, 1, none⟩ = some (.int .i64 n') ∧ w'.cell? ⟨w.heap.size + 1, 2, none⟩ = some (.string s') ∧ w.heap.size + 1 + 1 < w'.heap.size ∧ w'.cell? ⟨w.heap.size + 1 + 1, 0, none⟩ = some (.int .i64 k2) ∧ w'.cell? ⟨w.heap.size + 1 + 1, 1, none⟩ = some (.int .i64 n2) ∧ w'.cell? ⟨w.heap.size + 1 + 1, 2, none⟩ = some (.string s2) ∧ Below w.heap.size w w' := by
  obtain ⟨l1, a0, a1, a2, l2, b0, b1, b2, l3, c0, c1, c2, hB⟩ := h
  obtain ⟨m1, x0, x1, x2⟩ := keep3 hb ⟨l1, a0, a1, a2⟩
  obtain ⟨m2, y0, y1, y2⟩ := keep3 hb ⟨l2, b0, b1, b2⟩
  obtain ⟨m3, z0, z1, z2⟩ := keep3 hb ⟨l3, c0, c1, c2⟩
  exact ⟨m1, x0, x1, x2, m2, y0, y1, y2, m3, z0, z1, z2, below_call hb hB.size hB⟩

set_option maxHeartbeats 2000000 in
theorem orders_try (k n : Int) (s : ByteArray) (k' n' : Int) (s' : ByteArray) (k2 n2 : Int) (s2 : ByteArray) (w : World) (x z u : Int) (hx : Hid (ordV k n s k' n' s' = x)) (hy : Hid (ordV k' n' s' k n s = -x)) (hz : Hid (ordV k' n' s' k2 n2 s2 = z)) (hu : Hid (ordV k n s k2 n2 s2 = u)) (hC : Hid (checkN k n s = 0)) (hC' : Hid (checkN k' n' s' = 0)) (hC2 : Hid (checkN k2 n2 s2 = 0))
    (hX : Hid (x = -1 ∨ x = 0 ∨ x = 1)) (hZ : Hid (z = -1 ∨ z = 0 ∨ z = 1)) (hU : Hid (u = -1 ∨ u = 0 ∨ u = 1)) (hE : Hid (x = 0 ↔ (k = k' ∧ n = n' ∧ s.toList = s'.toList))) (hT : Hid (x ≤ 0 ∧ z ≤ 0 → u ≤ 0 ∧ ((x < 0 ∨ z < 0) ↔ u < 0))) :
    Calls Try.prog 5 #[.agg #[.int .i64 k, .int .i64 n, .string s], .agg #[.int .i64 k', .int .i64 n', .string s'], .agg #[.int .i64 k2, .int .i64 n2, .string s2]] w fun e w' => e = .returned (.bool true) ∧ Below w.heap.size w w' := by
  go_enter Try.func5, Try.ntmps5
  go_upto_region 1 with (fail)
  obtain ⟨h1, h2, h3, hA⟩ := three_boxes k n s k' n' s' k2 n2 s2 w
  generalize hW : (((w.alloc (.cells #[.int .i64 k, .int .i64 n, .string s] 23)).alloc (.cells #[.int .i64 k', .int .i64 n', .string s'] 23)).alloc (.cells #[.int .i64 k2, .int .i64 n2, .string s2] 23)) = X0 at h1 h2 h3 hA ⊢
  clear hW
  go_upto_region 3 with (first | (go_at_call 17; refine (alive_any _).mono ?_; rintro e w0 ⟨rfl, hb⟩; have hA : Below w.heap.size w w0 := (by (repeat (first | exact hA | exact Below.refl _ _ | (refine Below.setCell ?_ (by first | omega | (simp; done) | (simp; omega)) _) | (refine Below.alloc ?_ (by first | omega | (simp; done) | (simp; omega)) _) | (refine below_drewN ?_ _) | (refine Below.drew ?_) | (refine below_call hb (by first | omega | (simp; done) | (simp; omega)) ?_)))); have zA := hA.size; have h1 := keep3 hb h1; have h2 := keep3 hb h2; have h3 := keep3 hb h3))
  go_upto_region 5 with ((go_at_call 14; (first | with_reducible refine (rCheck_lit3 _ _ _ _ hC _).mono ?_ | with_reducible refine (rCheck_lit3 _ _ _ _ hC' _).mono ?_ | with_reducible refine (rCheck_lit3 _ _ _ _ hC2 _).mono ?_); rintro e w1 ⟨rfl, hb⟩; have hA : Below w.heap.size w w1 := (by (repeat (first | exact hA | exact Below.refl _ _ | (refine Below.setCell ?_ (by first | omega | (simp; done) | (simp; omega)) _) | (refine Below.alloc ?_ (by first | omega | (simp; done) | (simp; omega)) _) | (refine below_drewN ?_ _) | (refine Below.drew ?_) | (refine below_call hb (by first | omega | (simp; done) | (simp; omega)) ?_)))); have zA := hA.size; have h1 := keep3 hb h1; have h2 := keep3 hb h2; have h3 := keep3 hb h3))
  have hS0 : w.heap.size < w1.drew.heap.size ∧ w1.drew.cell? ⟨w.heap.size, 0, none⟩ = some (.int .i64 k) ∧ w1.drew.cell? ⟨w.heap.size, 1, none⟩ = some (.int .i64 n) ∧ w1.drew.cell? ⟨w.heap.size, 2, none⟩ = some (.string s) ∧ w.heap.size + 1 < w1.drew.heap.size ∧ w1.drew.cell? ⟨w.heap.size + 1, 0, none⟩ = some (.int .i64 k') ∧ w1.drew.cell? ⟨w.heap.size + 1, 1, none⟩ = some (.int .i64 n') ∧ w1.drew.cell? ⟨w.heap.size + 1, 2, none⟩ = some (.string s') ∧ w.heap.size + 1 + 1 < w1.drew.heap.size ∧ w1.drew.cell? ⟨w.heap.size + 1 + 1, 0, none⟩ = some (.int .i64 k2) ∧ w1.drew.cell? ⟨w.heap.size + 1 + 1, 1, none⟩ = some (.int .i64 n2) ∧ w1.drew.cell? ⟨w.heap.size + 1 + 1, 2, none⟩ = some (.string s2) ∧ Below w.heap.size w w1.drew := ⟨h1.1, h1.2.1, h1.2.2.1, h1.2.2.2, h2.1, h2.2.1, h2.2.2.1, h2.2.2.2, h3.1, h3.2.1, h3.2.2.1, h3.2.2.2, hA.drew⟩
  clear h1 h2 h3 hA zA hb
  first | go_region_held3 (fun W => w.heap.size < W.heap.size ∧ W.cell? ⟨w.heap.size, 0, none⟩ = some (.int .i64 k) ∧ W.cell? ⟨w.heap.size, 1, none⟩ = some (.int .i64 n) ∧ W.cell? ⟨w.heap.size, 2, none⟩ = some (.string s) ∧ w.heap.size + 1 < W.heap.size ∧ W.cell? ⟨w.heap.size + 1, 0, none⟩ = some (.int .i64 k') ∧ W.cell? ⟨w.heap.size + 1, 1, none⟩ = some (.int .i64 n') ∧ W.cell? ⟨w.heap.size + 1, 2, none⟩ = some (.string s') ∧ w.heap.size + 1 + 1 < W.heap.size ∧ W.cell? ⟨w.heap.size + 1 + 1, 0, none⟩ = some (.int .i64 k2) ∧ W.cell? ⟨w.heap.size + 1 + 1, 1, none⟩ = some (.int .i64 n2) ∧ W.cell? ⟨w.heap.size + 1 + 1, 2, none⟩ = some (.string s2) ∧ Below w.heap.size w W)
    (first | exact hS | exact hS0 | assumption)
    (first | (go_at_call 15; (first | with_reducible refine (order_lit _ _ _ _ _ _ _ hx _).mono ?_ | with_reducible refine (order_lit _ _ _ _ _ _ _ hy _).mono ?_ | with_reducible refine (order_lit _ _ _ _ _ _ _ hz _).mono ?_ | with_reducible refine (order_lit _ _ _ _ _ _ _ hu _).mono ?_); rintro e w9 ⟨rfl, hb⟩; have hS : w.heap.size < w9.heap.size ∧ w9.cell? ⟨w.heap.size, 0, none⟩ = some (.int .i64 k) ∧ w9.cell? ⟨w.heap.size, 1, none⟩ = some (.int .i64 n) ∧ w9.cell? ⟨w.heap.size, 2, none⟩ = some (.string s) ∧ w.heap.size + 1 < w9.heap.size ∧ w9.cell? ⟨w.heap.size + 1, 0, none⟩ = some (.int .i64 k') ∧ w9.cell? ⟨w.heap.size + 1, 1, none⟩ = some (.int .i64 n') ∧ w9.cell? ⟨w.heap.size + 1, 2, none⟩ = some (.string s') ∧ w.heap.size + 1 + 1 < w9.heap.size ∧ w9.cell? ⟨w.heap.size + 1 + 1, 0, none⟩ = some (.int .i64 k2) ∧ w9.cell? ⟨w.heap.size + 1 + 1, 1, none⟩ = some (.int .i64 n2) ∧ w9.cell? ⟨w.heap.size + 1 + 1, 2, none⟩ = some (.string s2) ∧ Below w.heap.size w w9 := (by first | exact keepB hb hS | exact keepB hb hS0))) | fail
  clear hS0
  obtain ⟨l1, a0, a1, a2, l2, b0, b1, b2, l3, c0, c1, c2, hA⟩ := hS
  go_upto_region 6 with (fail)
  rcases hX.out with rfl | rfl | rfl
  · have hne : Hid (¬ (k = k' ∧ n = n' ∧ s.toList = s'.toList)) := fun h => absurd (hE.out.2 h) (by decide)
    rcases hZ.out with rfl | rfl | rfl
    · rcases hU.out with rfl | rfl | rfl
      · go_wp2
        all_goals first | (go_ret; exact ⟨rfl, hA⟩) | (exfalso; exact hne.out ⟨by assumption, by assumption, by assumption⟩)
      · exact absurd hT.out (by decide)
      · exact absurd hT.out (by decide)
    · rcases hU.out with rfl | rfl | rfl
      · go_wp2
        all_goals first | (go_ret; exact ⟨rfl, hA⟩) | (exfalso; exact hne.out ⟨by assumption, by assumption, by assumption⟩)
      · exact absurd hT.out (by decide)
      · exact absurd hT.out (by decide)
    · go_wp2
      all_goals first | (go_ret; exact ⟨rfl, hA⟩) | (exfalso; exact hne.out ⟨by assumption, by assumption, by assumption⟩)
  · obtain ⟨rfl, rfl, hs⟩ := hE.out.1 rfl
    obtain rfl : s = s' := (toList_inj hs)
    clear hs
    rcases hZ.out with rfl | rfl | rfl
    · rcases hU.out with rfl | rfl | rfl
      · go_wp2
        go_ret
        exact ⟨rfl, hA⟩
      · exact absurd hT.out (by decide)
      · exact absurd hT.out (by decide)
    · rcases hU.out with rfl | rfl | rfl
      · exact absurd hT.out (by decide)
      · go_wp2
        go_ret
        exact ⟨rfl, hA⟩
      · exact absurd hT.out (by decide)
    · go_wp2
      go_ret
      exact ⟨rfl, hA⟩
  · have hne : Hid (¬ (k = k' ∧ n = n' ∧ s.toList = s'.toList)) := fun h => absurd (hE.out.2 h) (by decide)
    go_wp2
    all_goals first | (go_ret; exact ⟨rfl, hA⟩) | (exfalso; exact hne.out ⟨by assumption, by assumption, by assumption⟩)

theorem orders_good (k n : Int) (s : ByteArray) (k' n' : Int) (s' : ByteArray) (k2 n2 : Int) (s2 : ByteArray) (w : World) (h : mayB k n s = true) (h' : mayB k' n' s' = true) (h2 : mayB k2 n2 s2 = true) :
    Calls Try.prog 5 #[.agg #[.int .i64 k, .int .i64 n, .string s], .agg #[.int .i64 k', .int .i64 n', .string s'], .agg #[.int .i64 k2, .int .i64 n2, .string s2]] w fun e w' => e = .returned (.bool true) ∧ Below w.heap.size w w' := by
  refine orders_try k n s k' n' s' k2 n2 s2 w (ordV k n s k' n' s') (ordV k' n' s' k2 n2 s2) (ordV k n s k2 n2 s2) rfl (ordV_neg _ _ _ _ _ _) rfl rfl (if_pos h) (if_pos h') (if_pos h2) (ordV_bd _ _ _ _ _ _) (ordV_bd _ _ _ _ _ _) (ordV_bd _ _ _ _ _ _) ?_ ?_
  · show _ ↔ _
    rw [ordV_zero h h']
    exact ⟨fun ⟨a, b, c⟩ => ⟨a, b, by rw [c]⟩, fun ⟨a, b, c⟩ => ⟨a, b, toList_inj c⟩⟩
  · exact fun ⟨a, b⟩ => ordV_trans2 k n s k' n' s' k2 n2 s2 a b

set_option maxHeartbeats 1000000 in
theorem orders_bad1 (k n : Int) (s : ByteArray) (k' n' : Int) (s' : ByteArray) (k2 n2 : Int) (s2 : ByteArray) (w : World) (hC : Hid (checkN k n s = 9)) :
    Calls Try.prog 5 #[.agg #[.int .i64 k, .int .i64 n, .string s], .agg #[.int .i64 k', .int .i64 n', .string s'], .agg #[.int .i64 k2, .int .i64 n2, .string s2]] w fun e w' => e = .returned (.bool true) ∧ Below w.heap.size w w' := by
  go_enter Try.func5, Try.ntmps5
  go_upto_region 1 with (fail)
  obtain ⟨h1, h2, h3, hA⟩ := three_boxes k n s k' n' s' k2 n2 s2 w
  generalize hW : (((w.alloc (.cells #[.int .i64 k, .int .i64 n, .string s] 23)).alloc (.cells #[.int .i64 k', .int .i64 n', .string s'] 23)).alloc (.cells #[.int .i64 k2, .int .i64 n2, .string s2] 23)) = X0 at h1 h2 h3 hA ⊢
  clear hW
  go_upto_region 3 with (first | (go_at_call 17; refine (alive_any _).mono ?_; rintro e w0 ⟨rfl, hb⟩; have hA : Below w.heap.size w w0 := (by (repeat (first | exact hA | exact Below.refl _ _ | (refine Below.setCell ?_ (by first | omega | (simp; done) | (simp; omega)) _) | (refine Below.alloc ?_ (by first | omega | (simp; done) | (simp; omega)) _) | (refine below_drewN ?_ _) | (refine Below.drew ?_) | (refine below_call hb (by first | omega | (simp; done) | (simp; omega)) ?_)))); have zA := hA.size; have h1 := keep3 hb h1; have h2 := keep3 hb h2; have h3 := keep3 hb h3))
  go_wp2_with (first | (go_at_call 14; (first | with_reducible refine (rCheck_lit3 _ _ _ _ hC _).mono ?_); rintro e w1 ⟨rfl, hb⟩; have hA : Below w.heap.size w w1 := (by (repeat (first | exact hA | exact Below.refl _ _ | (refine Below.setCell ?_ (by first | omega | (simp; done) | (simp; omega)) _) | (refine Below.alloc ?_ (by first | omega | (simp; done) | (simp; omega)) _) | (refine below_drewN ?_ _) | (refine Below.drew ?_) | (refine below_call hb (by first | omega | (simp; done) | (simp; omega)) ?_)))); have zA := hA.size; have h1 := keep3 hb h1; have h2 := keep3 hb h2; have h3 := keep3 hb h3) | (go_at_call 13; (first | with_reducible refine (check_lit _ _ _ _ hC _).mono ?_); rintro e w1 ⟨rfl, hb⟩; have hA : Below w.heap.size w w1 := (by (repeat (first | exact hA | exact Below.refl _ _ | (refine Below.setCell ?_ (by first | omega | (simp; done) | (simp; omega)) _) | (refine Below.alloc ?_ (by first | omega | (simp; done) | (simp; omega)) _) | (refine below_drewN ?_ _) | (refine Below.drew ?_) | (refine below_call hb (by first | omega | (simp; done) | (simp; omega)) ?_)))); have zA := hA.size; have h1 := keep3 hb h1; have h2 := keep3 hb h2; have h3 := keep3 hb h3))
  go_ret
  exact ⟨rfl, hA⟩

set_option maxHeartbeats 1000000 in
theorem orders_bad2 (k n : Int) (s : ByteArray) (k' n' : Int) (s' : ByteArray) (k2 n2 : Int) (s2 : ByteArray) (w : World) (hC : Hid (checkN k n s = 0)) (hC' : Hid (checkN k' n' s' = 9)) :
    Calls Try.prog 5 #[.agg #[.int .i64 k, .int .i64 n, .string s], .agg #[.int .i64 k', .int .i64 n', .string s'], .agg #[.int .i64 k2, .int .i64 n2, .string s2]] w fun e w' => e = .returned (.bool true) ∧ Below w.heap.size w w' := by
  go_enter Try.func5, Try.ntmps5
  go_upto_region 1 with (fail)
  obtain ⟨h1, h2, h3, hA⟩ := three_boxes k n s k' n' s' k2 n2 s2 w
  generalize hW : (((w.alloc (.cells #[.int .i64 k, .int .i64 n, .string s] 23)).alloc (.cells #[.int .i64 k', .int .i64 n', .string s'] 23)).alloc (.cells #[.int .i64 k2, .int .i64 n2, .string s2] 23)) = X0 at h1 h2 h3 hA ⊢
  clear hW
  go_upto_region 3 with (first | (go_at_call 17; refine (alive_any _).mono ?_; rintro e w0 ⟨rfl, hb⟩; have hA : Below w.heap.size w w0 := (by (repeat (first | exact hA | exact Below.refl _ _ | (refine Below.setCell ?_ (by first | omega | (simp; done) | (simp; omega)) _) | (refine Below.alloc ?_ (by first | omega | (simp; done) | (simp; omega)) _) | (refine below_drewN ?_ _) | (refine Below.drew ?_) | (refine below_call hb (by first | omega | (simp; done) | (simp; omega)) ?_)))); have zA := hA.size; have h1 := keep3 hb h1; have h2 := keep3 hb h2; have h3 := keep3 hb h3))
  go_wp2_with (first | (go_at_call 14; (first | with_reducible refine (rCheck_lit3 _ _ _ _ hC _).mono ?_ | with_reducible refine (rCheck_lit3 _ _ _ _ hC' _).mono ?_); rintro e w1 ⟨rfl, hb⟩; have hA : Below w.heap.size w w1 := (by (repeat (first | exact hA | exact Below.refl _ _ | (refine Below.setCell ?_ (by first | omega | (simp; done) | (simp; omega)) _) | (refine Below.alloc ?_ (by first | omega | (simp; done) | (simp; omega)) _) | (refine below_drewN ?_ _) | (refine Below.drew ?_) | (refine below_call hb (by first | omega | (simp; done) | (simp; omega)) ?_)))); have zA := hA.size; have h1 := keep3 hb h1; have h2 := keep3 hb h2; have h3 := keep3 hb h3) | (go_at_call 13; (first | with_reducible refine (check_lit _ _ _ _ hC _).mono ?_ | with_reducible refine (check_lit _ _ _ _ hC' _).mono ?_); rintro e w1 ⟨rfl, hb⟩; have hA : Below w.heap.size w w1 := (by (repeat (first | exact hA | exact Below.refl _ _ | (refine Below.setCell ?_ (by first | omega | (simp; done) | (simp; omega)) _) | (refine Below.alloc ?_ (by first | omega | (simp; done) | (simp; omega)) _) | (refine below_drewN ?_ _) | (refine Below.drew ?_) | (refine below_call hb (by first | omega | (simp; done) | (simp; omega)) ?_)))); have zA := hA.size; have h1 := keep3 hb h1; have h2 := keep3 hb h2; have h3 := keep3 hb h3))
  go_ret
  exact ⟨rfl, hA⟩

set_option maxHeartbeats 1000000 in
theorem orders_bad3 (k n : Int) (s : ByteArray) (k' n' : Int) (s' : ByteArray) (k2 n2 : Int) (s2 : ByteArray) (w : World) (hC : Hid (checkN k n s = 0)) (hC' : Hid (checkN k' n' s' = 0)) (hC2 : Hid (checkN k2 n2 s2 = 9)) :
    Calls Try.prog 5 #[.agg #[.int .i64 k, .int .i64 n, .string s], .agg #[.int .i64 k', .int .i64 n', .string s'], .agg #[.int .i64 k2, .int .i64 n2, .string s2]] w fun e w' => e = .returned (.bool true) ∧ Below w.heap.size w w' := by
  go_enter Try.func5, Try.ntmps5
  go_upto_region 1 with (fail)
  obtain ⟨h1, h2, h3, hA⟩ := three_boxes k n s k' n' s' k2 n2 s2 w
  generalize hW : (((w.alloc (.cells #[.int .i64 k, .int .i64 n, .string s] 23)).alloc (.cells #[.int .i64 k', .int .i64 n', .string s'] 23)).alloc (.cells #[.int .i64 k2, .int .i64 n2, .string s2] 23)) = X0 at h1 h2 h3 hA ⊢
  clear hW
  go_upto_region 3 with (first | (go_at_call 17; refine (alive_any _).mono ?_; rintro e w0 ⟨rfl, hb⟩; have hA : Below w.heap.size w w0 := (by (repeat (first | exact hA | exact Below.refl _ _ | (refine Below.setCell ?_ (by first | omega | (simp; done) | (simp; omega)) _) | (refine Below.alloc ?_ (by first | omega | (simp; done) | (simp; omega)) _) | (refine below_drewN ?_ _) | (refine Below.drew ?_) | (refine below_call hb (by first | omega | (simp; done) | (simp; omega)) ?_)))); have zA := hA.size; have h1 := keep3 hb h1; have h2 := keep3 hb h2; have h3 := keep3 hb h3))
  go_wp2_with (first | (go_at_call 14; (first | with_reducible refine (rCheck_lit3 _ _ _ _ hC _).mono ?_ | with_reducible refine (rCheck_lit3 _ _ _ _ hC' _).mono ?_ | with_reducible refine (rCheck_lit3 _ _ _ _ hC2 _).mono ?_); rintro e w1 ⟨rfl, hb⟩; have hA : Below w.heap.size w w1 := (by (repeat (first | exact hA | exact Below.refl _ _ | (refine Below.setCell ?_ (by first | omega | (simp; done) | (simp; omega)) _) | (refine Below.alloc ?_ (by first | omega | (simp; done) | (simp; omega)) _) | (refine below_drewN ?_ _) | (refine Below.drew ?_) | (refine below_call hb (by first | omega | (simp; done) | (simp; omega)) ?_)))); have zA := hA.size; have h1 := keep3 hb h1; have h2 := keep3 hb h2; have h3 := keep3 hb h3) | (go_at_call 13; (first | with_reducible refine (check_lit _ _ _ _ hC _).mono ?_ | with_reducible refine (check_lit _ _ _ _ hC' _).mono ?_ | with_reducible refine (check_lit _ _ _ _ hC2 _).mono ?_); rintro e w1 ⟨rfl, hb⟩; have hA : Below w.heap.size w w1 := (by (repeat (first | exact hA | exact Below.refl _ _ | (refine Below.setCell ?_ (by first | omega | (simp; done) | (simp; omega)) _) | (refine Below.alloc ?_ (by first | omega | (simp; done) | (simp; omega)) _) | (refine below_drewN ?_ _) | (refine Below.drew ?_) | (refine below_call hb (by first | omega | (simp; done) | (simp; omega)) ?_)))); have zA := hA.size; have h1 := keep3 hb h1; have h2 := keep3 hb h2; have h3 := keep3 hb h3))
  go_ret
  exact ⟨rfl, hA⟩

theorem orders_any (k n : Int) (s : ByteArray) (k' n' : Int) (s' : ByteArray) (k2 n2 : Int) (s2 : ByteArray) (w : World) :
    Calls Try.prog 5 #[.agg #[.int .i64 k, .int .i64 n, .string s], .agg #[.int .i64 k', .int .i64 n', .string s'], .agg #[.int .i64 k2, .int .i64 n2, .string s2]] w fun e w' => e = .returned (.bool true) ∧ Below w.heap.size w w' := by
  by_cases h : mayB k n s = true
  · by_cases h' : mayB k' n' s' = true
    · by_cases h2 : mayB k2 n2 s2 = true
      · exact orders_good k n s k' n' s' k2 n2 s2 w h h' h2
      · exact orders_bad3 k n s k' n' s' k2 n2 s2 w (if_pos h) (if_pos h') (if_neg h2)
    · exact orders_bad2 k n s k' n' s' k2 n2 s2 w (if_pos h) (if_neg h')
  · exact orders_bad1 k n s k' n' s' k2 n2 s2 w (if_neg h)

end Go.Proofs.Ythcipdhfolikaaa
