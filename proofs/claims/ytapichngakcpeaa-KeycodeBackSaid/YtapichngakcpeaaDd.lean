/- What the reader's value answers: the walk. Conditions: a reader in a block of its own, at an octet. -/
import Derived.Test.YtapichngakcpeaaDc
import Derived.Laws.DeepNot64
namespace Go.Proofs.Ytapichngakcpeaa
open Go.RowKit
set_option linter.unusedSimpArgs false
set_option linter.unusedVariables false

/-- Block b holds a value. -/
def Bx (w : World) (b : Nat) (x y z : Value) : Prop := w.heap[b]? = some (.cells #[x, y, z] 36 (0, 0))
theorem Bx.new (w : World) (x y z : Value) : Bx (w.alloc (.cells #[x, y, z] 36)) w.heap.size x y z := heap_alloc_new w _
theorem Bx.lt {w : World} {b : Nat} {x y z : Value} (h : Bx w b x y z) : b < w.heap.size := by
  rcases Nat.lt_or_ge b w.heap.size with h' | h'
  · exact h'
  · unfold Bx at h; rw [Array.getElem?_eq_none h'] at h; cases h
theorem Bx.grown {w w' : World} {b : Nat} {x y z : Value} {row : Option Nat} (h : Bx w b x y z) (hg : w.grownBy w' row) (hne : row ≠ some b) : Bx w' b x y z :=
  (hg.block b h.lt (fun e => hne e.symm)).trans h
theorem Bx.cells {w : World} {b : Nat} {x y z : Value} (h : Bx w b x y z) : w.cell? ⟨b, 0, none⟩ = some x ∧ w.cell? ⟨b, 1, none⟩ = some y ∧ w.cell? ⟨b, 2, none⟩ = some z ∧ w.frozen? ⟨b, 0, none⟩ = false ∧ w.frozen? ⟨b, 1, none⟩ = false ∧ w.frozen? ⟨b, 2, none⟩ = false := by
  unfold Bx at h
  refine ⟨?_, ?_, ?_, ?_, ?_, ?_⟩ <;> simp [World.cell?, World.frozen?, h]

def ValPost (R : Except Int (Vl × List UInt8)) (g : Nat) (s : ByteArray) (w : World) (e : Ending) (w' : World) : Prop :=
  match R with
  | .ok (v, r) => e = .returned (.agg #[.int .i64 v.k, .int .i64 v.n, .string v.s]) ∧ (∃ j, r = s.data.toList.drop j ∧ j ≤ s.size ∧ Rdr w' g s j) ∧ w.grownBy w' (some g)
  | .error x => e = dies x ∧ w.grownBy w' (some g)
theorem ValPost.err {R : Except Int (Vl × List UInt8)} {x : Int} (h : R = .error x) {g : Nat} {s : ByteArray} {w w' : World} (hg : w.grownBy w' (some g)) : ValPost R g s w (dies x) w' := by
  subst h; exact ⟨rfl, hg⟩
theorem ValPost.val {R : Except Int (Vl × List UInt8)} {k n : Int} {t : ByteArray} {j : Nat} {s : ByteArray} (h : R = .ok (⟨k, n, t⟩, s.data.toList.drop j)) (hj : j ≤ s.size) {g : Nat} {w w' : World} (hr : Rdr w' g s j) (hg : w.grownBy w' (some g)) :
    ValPost R g s w (.returned (.agg #[.int .i64 k, .int .i64 n, .string t])) w' := by
  subst h; exact ⟨rfl, ⟨j, rfl, hj, hr⟩, hg⟩

theorem grownBy_three (w : World) (b : Nat) (x y z : Value) : w.grownBy (((w.setCell ⟨b, 0, none⟩ x).setCell ⟨b, 1, none⟩ y).setCell ⟨b, 2, none⟩ z) (some b) :=
  grownBy_trans (grownBy_trans (grownBy_setCell _ _ _ _) (grownBy_setCell _ _ _ _) (.inl rfl)) (grownBy_setCell _ _ _ _) (.inl rfl)
theorem val_end {w w1 : World} {g j : Nat} {s : ByteArray} {o : Obj} {x y z : Value} (hgw : g < w.heap.size) (hr : Rdr w1 g s j) (hg : (w.alloc o).grownBy w1 (some g)) :
    Rdr (((w1.setCell ⟨w.heap.size, 0, none⟩ x).setCell ⟨w.heap.size, 1, none⟩ y).setCell ⟨w.heap.size, 2, none⟩ z) g s j ∧ w.grownBy (((w1.setCell ⟨w.heap.size, 0, none⟩ x).setCell ⟨w.heap.size, 1, none⟩ y).setCell ⟨w.heap.size, 2, none⟩ z) (some g) := by
  have h3 := grownBy_three w1 w.heap.size x y z
  refine ⟨hr.grown h3 (by simp; omega), grownBy_trans (grownBy_trans (World.grownBy_alloc w o _) hg (.inl rfl)) h3 (.inr fun k hk => ?_)⟩
  simp at hk; omega

set_option maxHeartbeats 2000000 in
theorem value_4 (g : Nat) (s : ByteArray) (j : Nat) (w : World) (h : Rdr w g s j) (hj : j < s.size) (hs : s.size ≤ maxLen) (hf : s[j] = 4) :
    Calls Try.prog 20 #[.pointer (some ⟨g, 0, none⟩)] w (ValPost (valD (s.data.toList.drop j)) g s w) := by
  have hR : valD (s.data.toList.drop j) = .ok (⟨0, 0, ⟨#[]⟩⟩, s.data.toList.drop (j + 1)) := by
    rw [drop_at s j hj, hf]; rfl
  generalize valD (s.data.toList.drop j) = R at hR
  have HR := Lib.hid hR
  clear hR
  have hgw := h.lt
  have hc := octet_at g s j (w.alloc (.cells #[.int .i64 0, .int .i64 0, .string ⟨#[]⟩] 36)) (h.grown (World.grownBy_alloc w _ none) (by simp)) hj hs
  rw [hf] at hc
  clear h
  go_enter Try.func20, Try.ntmps20
  go_wp2_with (go_at_call 26; refine hc.mono ?_; rintro e w1 ⟨rfl, hR, hG⟩; obtain ⟨c0, c1, c2, f0, f1, f2⟩ := (Bx.grown (Bx.new w _ _ _) hG (by simp; omega)).cells; have HR1 := Lib.hid hR; have HG1 := Lib.hid hG; clear hR hG)
  have hE := val_end (x := .int .i64 0) (y := .int .i64 0) (z := .string ⟨#[]⟩) hgw HR1.out HG1.out
  exact bodyPost_ret (v := .agg #[.int .i64 0, .int .i64 0, .string ⟨#[]⟩]) (by simp [results, Try.results20, go_sem, c0, c1, c2]) rfl (ValPost.val HR.out (by omega) hE.1 hE.2)

/-- What amount answers: the number and the place behind it, or a panic. -/
def NumPost (R : Except Int (Int × List UInt8)) (g : Nat) (s : ByteArray) (w : World) (e : Ending) (w' : World) : Prop :=
  match R with
  | .ok (n, r) => e = .returned (.int .i64 (amt n)) ∧ (∃ j, r = s.data.toList.drop j ∧ j ≤ s.size ∧ Rdr w' g s j) ∧ w.grownBy w' (some g)
  | .error x => e = dies x ∧ w.grownBy w' (some g)
theorem amount_any (g : Nat) (s : ByteArray) (j k : Nat) (a : Int) (ha : a = 0 ∨ a = -1) (w : World) (h : Rdr w g s j) (hk : k ≤ 8) (hs : s.size ≤ maxLen) (hj : j ≤ s.size) :
    Calls Try.prog 27 #[.pointer (some ⟨g, 0, none⟩), .int .i64 k, .int .u8 (turn a)] w (NumPost (numD a k (s.data.toList.drop j)) g s w) := by
  have hl : (s.data.toList.drop j).length = s.size - j := by rw [List.length_drop]; simp
  unfold numD
  by_cases h1 : s.size < j + k
  · rw [if_pos (by omega)]
    exact amount_short g s j k a ha w h hk hs h1 hj
  · rw [if_neg (by omega)]
    by_cases h2 : need (amt (valF a ((s.data.toList.drop j).take k))) ≠ k ∨ 9223372036854775807 < amt (valF a ((s.data.toList.drop j).take k))
    · rw [if_pos h2]
      exact amount_bad g s j k a ha w h hk hs (by omega) (by unfold amtL; omega)
    · rw [if_neg h2]
      refine (amount_ok g s j k a ha w h hk hs (by omega) (by unfold amtL; omega)).mono fun e w' ⟨e1, e2, e3⟩ => ?_
      exact ⟨e1, ⟨j + k, by rw [List.drop_drop], by omega, e2⟩, e3⟩

set_option maxHeartbeats 2000000 in
theorem value_truth (g : Nat) (s : ByteArray) (j : Nat) (w : World) (h : Rdr w g s j) (hj : j < s.size) (hs : s.size ≤ maxLen) (n : Int) (h0 : 0 ≤ n) (h1 : n ≤ 1) (hf : (s[j].toNat : Int) = 80 + n) :
    Calls Try.prog 20 #[.pointer (some ⟨g, 0, none⟩)] w (ValPost (valD (s.data.toList.drop j)) g s w) := by
  have hR : valD (s.data.toList.drop j) = .ok (⟨2, n, ⟨#[]⟩⟩, s.data.toList.drop (j + 1)) := by
    rw [drop_at s j hj, valD, if_neg (by omega), if_neg (by omega), if_neg (by omega), if_pos (by omega)]
    have : (s[j].toNat : Int) - 80 = n := by omega
    rw [this]
  generalize valD (s.data.toList.drop j) = R at hR
  have HR := Lib.hid hR
  clear hR
  have hgw := h.lt
  have hc := octet_at g s j (w.alloc (.cells #[.int .i64 0, .int .i64 0, .string ⟨#[]⟩] 36)) (h.grown (World.grownBy_alloc w _ none) (by simp)) hj hs
  rw [hf] at hc
  clear h hf
  by_cases hn : n = 0
  · subst hn
    go_enter Try.func20, Try.ntmps20
    go_wp2_with (go_at_call 26; refine hc.mono ?_; rintro e w1 ⟨rfl, hR, hG⟩; have HB1 := Lib.hid (Bx.grown (Bx.new w _ _ _) hG (by simp; omega)); obtain ⟨c0, c1, c2, f0, f1, f2⟩ := HB1.out.cells; have HR1 := Lib.hid hR; have HG1 := Lib.hid hG; clear hR hG)
    have hE := val_end (x := .int .i64 2) (y := .int .i64 0) (z := .string ⟨#[]⟩) hgw HR1.out HG1.out
    exact bodyPost_ret (v := .agg #[.int .i64 2, .int .i64 0, .string ⟨#[]⟩]) (by simp [results, Try.results20, go_sem, c0, c1, c2]) rfl (ValPost.val HR.out (by omega) hE.1 hE.2)
  · obtain rfl : n = 1 := by omega
    go_enter Try.func20, Try.ntmps20
    go_wp2_with (go_at_call 26; refine hc.mono ?_; rintro e w1 ⟨rfl, hR, hG⟩; have HB1 := Lib.hid (Bx.grown (Bx.new w _ _ _) hG (by simp; omega)); obtain ⟨c0, c1, c2, f0, f1, f2⟩ := HB1.out.cells; have HR1 := Lib.hid hR; have HG1 := Lib.hid hG; clear hR hG)
    have hE := val_end (x := .int .i64 2) (y := .int .i64 1) (z := .string ⟨#[]⟩) hgw HR1.out HG1.out
    exact bodyPost_ret (v := .agg #[.int .i64 2, .int .i64 1, .string ⟨#[]⟩]) (by simp [results, Try.results20, go_sem, c0, c1, c2]) rfl (ValPost.val HR.out (by omega) hE.1 hE.2)

set_option maxHeartbeats 2000000 in
theorem value_none (g : Nat) (s : ByteArray) (j : Nat) (w : World) (h : Rdr w g s j) (hj : j < s.size) (hs : s.size ≤ maxLen) (F : Int) (hF : Hid (F = (s[j].toNat : Int))) (F0 : 0 ≤ F) (F1 : F ≤ 255) (h4 : (F == 4) = false) (h80 : (F == 80) = false) (h81 : (F == 81) = false) (h96 : (F == 96) = false) (hr : F < 55 ∨ 72 < F) :
    Calls Try.prog 20 #[.pointer (some ⟨g, 0, none⟩)] w (ValPost (valD (s.data.toList.drop j)) g s w) := by
  have hR : valD (s.data.toList.drop j) = .error 22 := by
    have e := hF.out
    simp only [beq_eq_false_iff_ne, ne_eq] at h4 h80 h81 h96
    rw [drop_at s j hj, valD, if_neg (by omega), if_neg (by omega), if_neg (by omega), if_neg (by omega), if_neg (by omega)]
  generalize valD (s.data.toList.drop j) = R at hR
  have HR := Lib.hid hR
  clear hR
  have hgw := h.lt
  have hc := octet_at g s j (w.alloc (.cells #[.int .i64 0, .int .i64 0, .string ⟨#[]⟩] 36)) (h.grown (World.grownBy_alloc w _ none) (by simp)) hj hs
  rw [← hF.out] at hc
  clear h
  rcases hr with hr | hr
  all_goals
    go_enter Try.func20, Try.ntmps20
    go_wp2_with (go_at_call 26; refine hc.mono ?_; rintro e w1 ⟨rfl, hR, hG⟩; have HB1 := Lib.hid (Bx.grown (Bx.new w _ _ _) hG (by simp; omega)); obtain ⟨c0, c1, c2, f0, f1, f2⟩ := HB1.out.cells; have HR1 := Lib.hid hR; have HG1 := Lib.hid hG; clear hR hG)
    exact ⟨rfl, ValPost.err HR.out (grownBy_trans (World.grownBy_alloc w _ _) HG1.out (.inl rfl))⟩

set_option maxHeartbeats 2000000 in
theorem value_text (g : Nat) (s : ByteArray) (j : Nat) (w : World) (h : Rdr w g s j) (hj : j < s.size) (hs : s.size ≤ maxLen) (hf : s[j] = 96) :
    Calls Try.prog 20 #[.pointer (some ⟨g, 0, none⟩)] w (ValPost (valD (s.data.toList.drop j)) g s w) := by
  have e3 : (96 : UInt8).toNat = 96 := rfl
  have hT := fun W (hW : Rdr W g s (j + 1)) => text_any g s (j + 1) W hW (by omega) hs
  have hgw := h.lt
  have hc := octet_at g s j (w.alloc (.cells #[.int .i64 0, .int .i64 0, .string ⟨#[]⟩] 36)) (h.grown (World.grownBy_alloc w _ none) (by simp)) hj hs
  rw [hf] at hc
  clear h
  cases hN : txtD [] (s.data.toList.drop (j + 1)) with
  | error x =>
    have hR : valD (s.data.toList.drop j) = .error x := by
      rw [drop_at s j hj, hf, valD, e3]
      simp [hN]
    rw [hN] at hT
    generalize valD (s.data.toList.drop j) = R at hR
    have HR := Lib.hid hR
    clear hR hN
    have hT' : ∀ W, Rdr W g s (j + 1) → Calls Try.prog 28 #[.pointer (some ⟨g, 0, none⟩)] W fun e w' => e = .panicked [{ v := .iface 24 (.int .i64 x), recovered := false }] ∧ W.grownBy w' (some g) := hT
    clear hT
    go_enter Try.func20, Try.ntmps20
    go_wp2_with (first | (go_at_call 26; refine hc.mono ?_; rintro e w1 ⟨rfl, hR, hG⟩; have HB1 := Lib.hid (Bx.grown (Bx.new w _ _ _) hG (by simp; omega)); obtain ⟨c0, c1, c2, f0, f1, f2⟩ := HB1.out.cells; have HR1 := Lib.hid hR; have HG1 := Lib.hid hG; clear hR hG) | (go_at_call 28; refine (hT' _ HR1.out).mono ?_; rintro e w2 ⟨rfl, hG2⟩; have HG2 := Lib.hid hG2; clear hG2))
    exact ⟨rfl, ValPost.err HR.out (grownBy_trans (grownBy_trans (World.grownBy_alloc w _ _) HG1.out (.inl rfl)) HG2.out (.inl rfl))⟩
  | ok p =>
    obtain ⟨t, r⟩ := p
    have hR : valD (s.data.toList.drop j) = .ok (⟨3, 0, ⟨t.toArray⟩⟩, r) := by
      rw [drop_at s j hj, hf, valD, e3]
      simp [hN]
    rw [hN] at hT
    generalize valD (s.data.toList.drop j) = R at hR
    have HR := Lib.hid hR
    clear hR hN
    have hT' : ∀ W, Rdr W g s (j + 1) → Calls Try.prog 28 #[.pointer (some ⟨g, 0, none⟩)] W fun e w' => e = .returned (.string ⟨t.toArray⟩) ∧ (∃ j, r = s.data.toList.drop j ∧ j ≤ s.size ∧ Rdr w' g s j) ∧ W.grownBy w' (some g) := hT
    clear hT
    go_enter Try.func20, Try.ntmps20
    go_wp2_with (first | (go_at_call 26; refine hc.mono ?_; rintro e w1 ⟨rfl, hR, hG⟩; have HB1 := Lib.hid (Bx.grown (Bx.new w _ _ _) hG (by simp; omega)); obtain ⟨c0, c1, c2, f0, f1, f2⟩ := HB1.out.cells; have HR1 := Lib.hid hR; have HG1 := Lib.hid hG; clear hR hG) | (go_at_call 28; refine (hT' _ HR1.out).mono ?_; rintro e w2 ⟨rfl, ⟨i, hr, hi, hR2⟩, hG2⟩; have HB2 := Lib.hid (HB1.out.grown hG2 (by simp; omega)); clear c0 c1 c2 f0 f1 f2; obtain ⟨c0, c1, c2, f0, f1, f2⟩ := HB2.out.cells; have HR2 := Lib.hid hR2; have HG2 := Lib.hid hG2; have HRr := Lib.hid hr; clear hG2 hR2 hr))
    have hE := val_end (x := .int .i64 3) (y := .int .i64 0) (z := .string ⟨t.toArray⟩) hgw HR2.out (grownBy_trans HG1.out HG2.out (.inl rfl))
    exact bodyPost_ret (v := .agg #[.int .i64 3, .int .i64 0, .string ⟨t.toArray⟩]) (by simp [results, Try.results20, go_sem, c0, c1, c2]) rfl (ValPost.val (by rw [HR.out, HRr.out]) hi hE.1 hE.2)

set_option maxHeartbeats 2000000 in
theorem value_from (g : Nat) (s : ByteArray) (j : Nat) (w : World) (h : Rdr w g s j) (hj : j < s.size) (hs : s.size ≤ maxLen) (k : Nat) (hk : k ≤ 8) (hf : (s[j].toNat : Int) = 64 + k) :
    Calls Try.prog 20 #[.pointer (some ⟨g, 0, none⟩)] w (ValPost (valD (s.data.toList.drop j)) g s w) := by
  have hT := fun W (hW : Rdr W g s (j + 1)) => amount_any g s (j + 1) k 0 (.inl rfl) W hW hk hs (by omega)
  have ht : turn 0 = 0 := by decide
  rw [ht] at hT
  have hsp : 64 + (k : Int) - 64 = (k : Int) := by omega
  have hgw := h.lt
  have hc := octet_at g s j (w.alloc (.cells #[.int .i64 0, .int .i64 0, .string ⟨#[]⟩] 36)) (h.grown (World.grownBy_alloc w _ none) (by simp)) hj hs
  rw [hf] at hc
  clear h
  cases hN : numD 0 k (s.data.toList.drop (j + 1)) with
  | error x =>
    have hR : valD (s.data.toList.drop j) = .error x := by
      rw [drop_at s j hj, valD, if_neg (by omega), if_neg (by omega), if_pos (by omega)]
      have e : s[j].toNat - 64 = k := by omega
      rw [e, hN]
    rw [hN] at hT
    generalize valD (s.data.toList.drop j) = R at hR
    have HR := Lib.hid hR
    clear hR hN hf
    have hT' : ∀ W, Rdr W g s (j + 1) → Calls Try.prog 27 #[.pointer (some ⟨g, 0, none⟩), .int .i64 (64 + (k : Int) - 64), .int .u8 0] W fun e w' => e = .panicked [{ v := .iface 24 (.int .i64 x), recovered := false }] ∧ W.grownBy w' (some g) := by rw [hsp]; exact hT
    clear hT hsp
    go_enter Try.func20, Try.ntmps20
    go_wp2_with (first | (go_at_call 26; refine hc.mono ?_; rintro e w1 ⟨rfl, hR, hG⟩; have HB1 := Lib.hid (Bx.grown (Bx.new w _ _ _) hG (by simp; omega)); obtain ⟨c0, c1, c2, f0, f1, f2⟩ := HB1.out.cells; have HR1 := Lib.hid hR; have HG1 := Lib.hid hG; clear hR hG) | (go_at_call 27; (with_reducible refine (hT' _ HR1.out).mono ?_); rintro e w2 ⟨rfl, hG2⟩; have HG2 := Lib.hid hG2; clear hG2))
    exact ⟨rfl, ValPost.err HR.out (grownBy_trans (grownBy_trans (World.grownBy_alloc w _ _) HG1.out (.inl rfl)) HG2.out (.inl rfl))⟩
  | ok p =>
    obtain ⟨n, r⟩ := p
    have hR : valD (s.data.toList.drop j) = .ok (⟨1, n, ⟨#[]⟩⟩, r) := by
      rw [drop_at s j hj, valD, if_neg (by omega), if_neg (by omega), if_pos (by omega)]
      have e : s[j].toNat - 64 = k := by omega
      rw [e, hN]
    obtain ⟨_, _, n3, n4⟩ := numD_ok hN
    rw [hN] at hT
    generalize valD (s.data.toList.drop j) = R at hR
    have HR := Lib.hid hR
    clear hR hN hf
    have hT' : ∀ W, Rdr W g s (j + 1) → Calls Try.prog 27 #[.pointer (some ⟨g, 0, none⟩), .int .i64 (64 + (k : Int) - 64), .int .u8 0] W fun e w' => e = .returned (.int .i64 (amt n)) ∧ (∃ j, r = s.data.toList.drop j ∧ j ≤ s.size ∧ Rdr w' g s j) ∧ W.grownBy w' (some g) := by rw [hsp]; exact hT
    clear hT hsp
    go_enter Try.func20, Try.ntmps20
    go_wp2_with (first | (go_at_call 26; refine hc.mono ?_; rintro e w1 ⟨rfl, hR, hG⟩; have HB1 := Lib.hid (Bx.grown (Bx.new w _ _ _) hG (by simp; omega)); obtain ⟨c0, c1, c2, f0, f1, f2⟩ := HB1.out.cells; have HR1 := Lib.hid hR; have HG1 := Lib.hid hG; clear hR hG) | (go_at_call 27; (with_reducible refine (hT' _ HR1.out).mono ?_); rintro e w2 ⟨rfl, ⟨i, hr, hi, hR2⟩, hG2⟩; have HB2 := Lib.hid (HB1.out.grown hG2 (by simp; omega)); clear c0 c1 c2 f0 f1 f2; obtain ⟨c0, c1, c2, f0, f1, f2⟩ := HB2.out.cells; have HR2 := Lib.hid hR2; have HG2 := Lib.hid hG2; have HRr := Lib.hid hr; clear hG2 hR2 hr))
    have hE := val_end (x := .int .i64 1) (y := .int .i64 n) (z := .string ⟨#[]⟩) hgw HR2.out (grownBy_trans HG1.out HG2.out (.inl rfl))
    have hy : (amt n : Int) = n := by
      have hnn : ¬ n < 0 := fun hlt => by
        have := Int.ediv_neg_of_neg_of_pos hlt (pow_pos' k); omega
      unfold amt; rw [if_neg hnn]; omega
    rw [hy]
    exact bodyPost_ret (v := .agg #[.int .i64 1, .int .i64 n, .string ⟨#[]⟩]) (by simp [results, Try.results20, go_sem, c0, c1, c2]) rfl (ValPost.val (by rw [HR.out, HRr.out]) hi hE.1 hE.2)

set_option maxHeartbeats 2000000 in
theorem value_below (g : Nat) (s : ByteArray) (j : Nat) (w : World) (h : Rdr w g s j) (hj : j < s.size) (hs : s.size ≤ maxLen) (k : Nat) (hk : k ≤ 8) (hf : (s[j].toNat : Int) = 63 - k) :
    Calls Try.prog 20 #[.pointer (some ⟨g, 0, none⟩)] w (ValPost (valD (s.data.toList.drop j)) g s w) := by
  have hT := fun W (hW : Rdr W g s (j + 1)) => amount_any g s (j + 1) k (-1) (.inr rfl) W hW hk hs (by omega)
  have ht : turn (-1) = 255 := by decide
  rw [ht] at hT
  have hsp : 63 - (63 - (k : Int)) = (k : Int) := by omega
  have hgw := h.lt
  have hc := octet_at g s j (w.alloc (.cells #[.int .i64 0, .int .i64 0, .string ⟨#[]⟩] 36)) (h.grown (World.grownBy_alloc w _ none) (by simp)) hj hs
  rw [hf] at hc
  clear h
  cases hN : numD (-1) k (s.data.toList.drop (j + 1)) with
  | error x =>
    have hR : valD (s.data.toList.drop j) = .error x := by
      rw [drop_at s j hj, valD, if_neg (by omega), if_pos (by omega)]
      have e : 63 - s[j].toNat = k := by omega
      rw [e, hN]
    rw [hN] at hT
    generalize valD (s.data.toList.drop j) = R at hR
    have HR := Lib.hid hR
    clear hR hN hf
    have hT' : ∀ W, Rdr W g s (j + 1) → Calls Try.prog 27 #[.pointer (some ⟨g, 0, none⟩), .int .i64 (63 - (63 - (k : Int))), .int .u8 255] W fun e w' => e = .panicked [{ v := .iface 24 (.int .i64 x), recovered := false }] ∧ W.grownBy w' (some g) := by rw [hsp]; exact hT
    clear hT hsp
    go_enter Try.func20, Try.ntmps20
    go_wp2_with (first | (go_at_call 26; refine hc.mono ?_; rintro e w1 ⟨rfl, hR, hG⟩; have HB1 := Lib.hid (Bx.grown (Bx.new w _ _ _) hG (by simp; omega)); obtain ⟨c0, c1, c2, f0, f1, f2⟩ := HB1.out.cells; have HR1 := Lib.hid hR; have HG1 := Lib.hid hG; clear hR hG) | (go_at_call 27; (with_reducible refine (hT' _ HR1.out).mono ?_); rintro e w2 ⟨rfl, hG2⟩; have HG2 := Lib.hid hG2; clear hG2))
    exact ⟨rfl, ValPost.err HR.out (grownBy_trans (grownBy_trans (World.grownBy_alloc w _ _) HG1.out (.inl rfl)) HG2.out (.inl rfl))⟩
  | ok p =>
    obtain ⟨n, r⟩ := p
    have hR : valD (s.data.toList.drop j) = .ok (⟨1, n, ⟨#[]⟩⟩, r) := by
      rw [drop_at s j hj, valD, if_neg (by omega), if_pos (by omega)]
      have e : 63 - s[j].toNat = k := by omega
      rw [e, hN]
    obtain ⟨_, _, n3, n4⟩ := numD_ok hN
    rw [hN] at hT
    generalize valD (s.data.toList.drop j) = R at hR
    have HR := Lib.hid hR
    clear hR hN hf
    have hT' : ∀ W, Rdr W g s (j + 1) → Calls Try.prog 27 #[.pointer (some ⟨g, 0, none⟩), .int .i64 (63 - (63 - (k : Int))), .int .u8 255] W fun e w' => e = .returned (.int .i64 (amt n)) ∧ (∃ j, r = s.data.toList.drop j ∧ j ≤ s.size ∧ Rdr w' g s j) ∧ W.grownBy w' (some g) := by rw [hsp]; exact hT
    clear hT hsp
    go_enter Try.func20, Try.ntmps20
    go_wp2_with (first | (go_at_call 26; refine hc.mono ?_; rintro e w1 ⟨rfl, hR, hG⟩; have HB1 := Lib.hid (Bx.grown (Bx.new w _ _ _) hG (by simp; omega)); obtain ⟨c0, c1, c2, f0, f1, f2⟩ := HB1.out.cells; have HR1 := Lib.hid hR; have HG1 := Lib.hid hG; clear hR hG) | (go_at_call 27; (with_reducible refine (hT' _ HR1.out).mono ?_); rintro e w2 ⟨rfl, ⟨i, hr, hi, hR2⟩, hG2⟩; have HB2 := Lib.hid (HB1.out.grown hG2 (by simp; omega)); clear c0 c1 c2 f0 f1 f2; obtain ⟨c0, c1, c2, f0, f1, f2⟩ := HB2.out.cells; have HR2 := Lib.hid hR2; have HG2 := Lib.hid hG2; have HRr := Lib.hid hr; clear hG2 hR2 hr))
    have hE := val_end (x := .int .i64 1) (y := .int .i64 n) (z := .string ⟨#[]⟩) hgw HR2.out (grownBy_trans HG1.out HG2.out (.inl rfl))
    have hy : bits .xor .i64 (-1) (amt n : Int) = n := by
      have hnn : n < 0 := by
        rcases Int.lt_or_le n 0 with hlt | hlt
        · exact hlt
        · have := Int.ediv_nonneg hlt (Int.le_of_lt (pow_pos' k)); omega
      rw [i64_not _ (by omega)]
      unfold amt; rw [if_pos hnn]; omega
    rw [hy]
    exact bodyPost_ret (v := .agg #[.int .i64 1, .int .i64 n, .string ⟨#[]⟩]) (by simp [results, Try.results20, go_sem, c0, c1, c2]) rfl (ValPost.val (by rw [HR.out, HRr.out]) hi hE.1 hE.2)

end Go.Proofs.Ytapichngakcpeaa
