/- How the reader goes through a list of values: the walks of value, text and number. Conditions: a list that is read in memory. -/
import Derived.Test.YtfmjpikibfdlaaaOa
namespace Go.Proofs.Ytfmjpikibfdlaaa
open Go.RowKit Go.Sort Go.Maps
set_option linter.unusedSimpArgs false
set_option linter.unusedVariables false

theorem add_three (ad : Addr) (j : Nat) : (ad.add 3).add (j * 3) = ad.add ((j + 1) * 3) := by
  rw [add_ne (show (3 : Nat) ≠ 0 by decide)]
  by_cases h0 : j = 0
  · subst h0
    rw [Nat.zero_mul, add0, Nat.zero_add, Nat.one_mul, add_ne (by decide)]
  · rw [add_ne (show j * 3 ≠ 0 by omega), add_ne (show (j + 1) * 3 ≠ 0 by omega)]
    simp only [Addr.mk.injEq, and_true, true_and]
    omega
/-- Block b is a reader. -/
abbrev Bxd (w : World) (b : Nat) (v : Value) : Prop := w.heap[b]? = some (.cells #[v] 92 (0, 0))
theorem Bxd.below {w w' : World} {b : Nat} {v : Value} (h : Bxd w b v) (hb : Below w.heap.size w w') : Bxd w' b v := by
  unfold Bxd
  rw [hb.block b (Array.getElem?_eq_some_iff.1 h).1]; exact h
theorem Bxd.lt {w : World} {b : Nat} {v : Value} (h : Bxd w b v) : b < w.heap.size := (Array.getElem?_eq_some_iff.1 h).1
theorem Bxd.cells {w : World} {b : Nat} {v : Value} (h : Bxd w b v) : w.cell? ⟨b, 0, none⟩ = some v ∧ w.frozen? ⟨b, 0, none⟩ = false := by
  simp [World.cell?, World.frozen?, h]
theorem Bxd.set {w : World} {b : Nat} {v : Value} (h : Bxd w b v) (u : Value) : Bxd (w.setCell ⟨b, 0, none⟩ u) b u := by
  unfold Bxd
  rw [heap_setCell_same w b 0 _ _ u h]; rfl
/-- What is left for the reader: the list l, which lies in what was there at w0. -/
structure Left (w0 w : World) (rb : Nat) (l : List V3) : Prop where
  rd : ∃ A c, Bxd w rb (.slice A l.length c) ∧ RdV w0 A l ∧ l.length ≤ c ∧ c ≤ 9223372036854775807
  hB : w0.heap.size ≤ rb
  bel : Below w0.heap.size w0 w
theorem Left.grown {w0 w w' : World} {rb : Nat} {l : List V3} {r : Option Nat} (h : Left w0 w rb l) (hg : w.grownBy w' r) (hr : r ≠ some rb) (hr2 : ∀ k, r = some k → w0.heap.size ≤ k) : Left w0 w' rb l := by
  obtain ⟨A, c, h1, h2⟩ := h.rd
  exact ⟨⟨A, c, row_grown h1 hg hr, h2⟩, h.hB, h.bel.grown hg h.bel.size hr2⟩
theorem Left.below {w0 w w' : World} {rb : Nat} {l : List V3} (h : Left w0 w rb l) (hb : Below w.heap.size w w') : Left w0 w' rb l := h.grown (grown_below hb none) (by simp) (fun k hk => by cases hk)

theorem Left.step {w0 w : World} {rb : Nat} {v : Value} {l : List V3} {A : Option Addr} {c : Nat} (hbel : Below w0.heap.size w0 w) (hB : w0.heap.size ≤ rb) (h1 : Bxd w rb v) (hr : RdV w0 A l) (hc : l.length ≤ c) (hc2 : c ≤ 9223372036854775807) (o1 o2 : Obj) :
    Left w0 (((w.setCell ⟨rb, 0, none⟩ (.slice A l.length c)).alloc o1).alloc o2) rb l ∧ w.grownBy (((w.setCell ⟨rb, 0, none⟩ (.slice A l.length c)).alloc o1).alloc o2) (some rb) := by
  have hb2 : Below (w.setCell ⟨rb, 0, none⟩ (.slice A l.length c)).heap.size (w.setCell ⟨rb, 0, none⟩ (.slice A l.length c)) (((w.setCell ⟨rb, 0, none⟩ (.slice A l.length c)).alloc o1).alloc o2) :=
    (below1 _ o1).trans ((below1 _ o2).mono (by simp))
  have hs : Left w0 (w.setCell ⟨rb, 0, none⟩ (.slice A l.length c)) rb l := ⟨⟨A, c, h1.set _, hr, hc, hc2⟩, hB, hbel.setCell (p := ⟨rb, 0, none⟩) hB _⟩
  exact ⟨hs.below hb2, grown_trans (grown_setCell w rb 0 _) (grown_below hb2 _)⟩
theorem World.alloc_cells3 (w : World) (rb : Nat) (u a b c : Value) (T : TypeId) : ∀ j x, #[a, b, c][j]? = some x → (((w.setCell ⟨rb, 0, none⟩ u).alloc (.cells #[a, b, c] T)).alloc (.cells #[a, b, c] T)).cell? ⟨w.heap.size, j, none⟩ = some x := fun j x hx => by
  have h1 : ((w.setCell ⟨rb, 0, none⟩ u).alloc (.cells #[a, b, c] T)).heap[w.heap.size]? = some (.cells #[a, b, c] T (0, 0)) := by
    have h := heap_alloc_new (w.setCell ⟨rb, 0, none⟩ u) (.cells #[a, b, c] T)
    rwa [show (w.setCell ⟨rb, 0, none⟩ u).heap.size = w.heap.size by simp] at h
  have h2 := row_below h1 (below1 _ (.cells #[a, b, c] T))
  simpa [World.cell?, h2] using hx
set_option maxRecDepth 100000 in
set_option maxHeartbeats 4000000 in
theorem value_any (w0 w : World) (rb : Nat) (v : V3) (l : List V3) (h : Left w0 w rb (v :: l)) :
    Calls Try.prog 70 #[.pointer (some ⟨rb, 0, none⟩)] w fun e w' => e = .returned (.agg #[.int .i64 v.k, .int .i64 v.n, .string v.s]) ∧ Left w0 w' rb l ∧ w.grownBy w' (some rb) := by
  obtain ⟨⟨A, c, h1, h2, h3, h4⟩, hB, hbel⟩ := h
  obtain ⟨ad, e, k0, k1, k2⟩ := h2.at_ (j := 0) (by simp)
  subst e
  have hz := h1.lt
  have hr2 : RdV w0 (some (ad.add 3)) l := fun hl => ⟨_, rfl, fun j x hj => by
    obtain ⟨ad', e', hc⟩ := h2 (by simp)
    injection e' with e'
    subst e'
    have := hc (j + 1) x (by simpa using hj)
    rwa [add_three ad j]⟩
  rw [Nat.zero_mul, add0] at k0 k1 k2
  have hadB := cell_lt k0
  have hb1 := below1 w (.cells #[.int .i64 0, .int .i64 0, .string ⟨#[]⟩] 86)
  have H1 := Lib.hid h1
  have HR2 := Lib.hid hr2
  have HBEL := Lib.hid hbel
  have HW1 := Lib.hid (hbel.trans (hb1.mono hbel.size))
  have j0 := (HW1.out.cell (p := ad) hadB).trans k0
  have j1 := (HW1.out.cell (p := ⟨ad.block, ad.off + 1, none⟩) hadB).trans k1
  have j2 := (HW1.out.cell (p := ⟨ad.block, ad.off + 2, none⟩) hadB).trans k2
  have H2 := Lib.hid (h1.below hb1)
  obtain ⟨r0, rf⟩ := H2.out.cells
  have hlen : ((v :: l).length : Int) = (l.length : Int) + 1 := by simp
  have hl1 : ¬ ((l.length : Int) + 1 = 0) := by omega
  have hlc : (l.length : Int) + 1 ≤ (c : Int) := by simp at h3; omega
  clear h2 hr2 hbel hb1 k0 k1 k2
  go_enter Try.func70, Try.ntmps70
  go_upto_region 1 with fail
  go_wp2
  · have hl0 : l = [] := List.eq_nil_of_length_eq_zero (by simp at h3; omega)
    subst hl0
    have z0 := (World.alloc_cells3 w rb (.slice (some ad) 0 0) (.int .i64 v.k) (.int .i64 v.n) (.string v.s) 86)
    have c0 := z0 0 _ rfl
    have c1 := z0 1 _ rfl
    have c2 := z0 2 _ rfl
    exact bodyPost_ret (v := v.val) (by simp [results, Try.results70, go_sem, c0, c1, c2]) rfl ⟨rfl, Left.step (l := []) (A := some ad) (c := 0) (HBEL.out) hB (H1.out) (fun hl => absurd rfl hl) (by simp) (by decide) _ _⟩
  · have hr3 := HR2.out
    rw [add_ne (show (3 : Nat) ≠ 0 by decide)] at hr3
    have HR3 := Lib.hid hr3
    clear hr3
    have z0 := (World.alloc_cells3 w rb (.slice (some ⟨ad.block, ad.off + 3, none⟩) l.length (c - 1)) (.int .i64 v.k) (.int .i64 v.n) (.string v.s) 86)
    have c0 := z0 0 _ rfl
    have c1 := z0 1 _ rfl
    have c2 := z0 2 _ rfl
    exact bodyPost_ret (v := v.val) (by simp [results, Try.results70, go_sem, c0, c1, c2]) rfl ⟨rfl, Left.step (c := c - 1) (HBEL.out) hB (H1.out) HR3.out (by simp at h3; omega) (by omega) _ _⟩
theorem run_field1 (k n : Int) (s : ByteArray) (w : World) : (Instr.field 86 (.agg #[.int .i64 k, .int .i64 n, .string s]) 1).run Try.prog w = .ok (.int .i64 n) w := by
  first | kernel_rfl | (simp [Instr.field, go_sem, Try.underlying86]; done)
theorem run_field2 (k n : Int) (s : ByteArray) (w : World) : (Instr.field 86 (.agg #[.int .i64 k, .int .i64 n, .string s]) 2).run Try.prog w = .ok (.string s) w := by
  first | kernel_rfl | (simp [Instr.field, go_sem, Try.underlying86]; done)
set_option maxRecDepth 100000 in
/-- Text: the reader's clone of it. -/
theorem rtext_any (w0 w : World) (rb : Nat) (v : V3) (l : List V3) (h : Left w0 w rb (v :: l)) (hs : v.s.size ≤ 140737488355328) :
    Calls Try.prog 59 #[.pointer (some ⟨rb, 0, none⟩)] w fun e w' => e = .returned (.string v.s) ∧ Left w0 w' rb l ∧ w.grownBy w' (some rb) := by
  have HV := Lib.hid (value_any w0 w rb v l h)
  have HC := Lib.hid fun W => sClone_any v.s W hs
  clear h
  have hf := @run_field2
  go_enter Try.func59, Try.ntmps59
  go_wp2_with (first
    | (go_at_call 70; (with_reducible refine HV.out.mono ?_); rintro e w1 ⟨rfl, hl, hg⟩; have HL1 := Lib.hid hl; have HG1 := Lib.hid hg; clear hl hg)
    | (go_at_call 30; (with_reducible refine (HC.out _).mono ?_); rintro e w2 ⟨rfl, hb⟩; have HL2 := Lib.hid (HL1.out.below hb); have HG2 := Lib.hid (grown_trans HG1.out (grown_below hb _)); clear hb))
  go_ret
  exact ⟨rfl, HL2.out, HG2.out⟩
set_option maxRecDepth 100000 in
theorem rnumber_any (w0 w : World) (rb : Nat) (v : V3) (l : List V3) (h : Left w0 w rb (v :: l)) :
    Calls Try.prog 60 #[.pointer (some ⟨rb, 0, none⟩)] w fun e w' => e = .returned (.int .i64 v.n) ∧ Left w0 w' rb l ∧ w.grownBy w' (some rb) := by
  have HV := Lib.hid (value_any w0 w rb v l h)
  clear h
  have hf := @run_field1
  go_enter Try.func60, Try.ntmps60
  go_wp2_with (go_at_call 70; (with_reducible refine HV.out.mono ?_); rintro e w1 ⟨rfl, hl, hg⟩; have HL1 := Lib.hid hl; have HG1 := Lib.hid hg; clear hl hg)
  go_ret
  exact ⟨rfl, HL1.out, HG1.out⟩
end Go.Proofs.Ytfmjpikibfdlaaa
