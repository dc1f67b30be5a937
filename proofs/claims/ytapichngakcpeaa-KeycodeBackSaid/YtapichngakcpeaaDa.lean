/- What the reader's octet and marked answer: the walks. Conditions: a reader in a block of its own. -/
import Derived.Test.YtapichngakcpeaaVe
import Derived.Test.YtapichngakcpeaaMc
import Derived.Deep.RegionHeld3
import Derived.Deep.DeepCutAuto
namespace Go.Proofs.Ytapichngakcpeaa
open Go.RowKit
set_option linter.unusedSimpArgs false
set_option linter.unusedVariables false

/-- Block g holds a reader of s at place j. -/
def Rdr (w : World) (g : Nat) (s : ByteArray) (j : Nat) : Prop := w.heap[g]? = some (.cells #[.string s, .int .i64 j] 43 (0, 0))
theorem Rdr.lt {w : World} {g j : Nat} {s : ByteArray} (h : Rdr w g s j) : g < w.heap.size := by
  rcases Nat.lt_or_ge g w.heap.size with h' | h'
  · exact h'
  · unfold Rdr at h; rw [Array.getElem?_eq_none h'] at h; cases h
theorem Rdr.cells {w : World} {g j : Nat} {s : ByteArray} (h : Rdr w g s j) : w.cell? ⟨g, 0, none⟩ = some (.string s) ∧ w.cell? ⟨g, 1, none⟩ = some (.int .i64 j) ∧ w.frozen? ⟨g, 1, none⟩ = false := by
  unfold Rdr at h
  refine ⟨?_, ?_, ?_⟩
  · simp [World.cell?, h]
  · simp [World.cell?, h]
  · simp [World.frozen?, h]

theorem grownBy_drewN (w : World) (n : Nat) (r : Option Nat) : w.grownBy (w.drewN n) r := ⟨rfl, rfl, rfl, Nat.le_refl _, fun _ _ _ => rfl⟩
theorem grownBy_setCell (w : World) (g o : Nat) (v : Value) : w.grownBy (w.setCell ⟨g, o, none⟩ v) (some g) :=
  ⟨rfl, rfl, rfl, by simp [World.setCell], fun k _ hk => Below.heap_setCell _ _ _ _ (fun e => hk (by simp [e]))⟩
theorem Rdr.step {w : World} {g j : Nat} {s : ByteArray} (h : Rdr w g s j) (n : Nat) : Rdr ((w.drewN n).setCell ⟨g, 1, none⟩ (.int .i64 ((j : Int) + 1))) g s (j + 1) := by
  have h' : (w.drewN n).heap[g]? = some (.cells #[.string s, .int .i64 j] 43 (0, 0)) := h
  have := heap_setCell_same (w.drewN n) g 1 #[.string s, .int .i64 j] 43 (.int .i64 ((j : Int) + 1)) h'
  unfold Rdr
  rw [this]
  simp
theorem Rdr.drewN {w : World} {g j : Nat} {s : ByteArray} (h : Rdr w g s j) (n : Nat) : Rdr (w.drewN n) g s j := h

set_option maxHeartbeats 1000000 in
theorem octet_end (g : Nat) (s : ByteArray) (w : World) (h : Rdr w g s s.size) :
    Calls Try.prog 26 #[.pointer (some ⟨g, 0, none⟩)] w fun e w' => e = .panicked [{ v := .iface 24 (.int .i64 8), recovered := false }] ∧ w.grownBy w' (some g) := by
  obtain ⟨c0, c1, f1⟩ := h.cells
  clear h
  go_enter Try.func26, Try.ntmps26
  go_wp2_with fail
  go_quiet (fail)
  go_wp2
  exact ⟨rfl, rfl, grownBy_drewN _ _ _⟩

set_option maxHeartbeats 1000000 in
theorem octet_at (g : Nat) (s : ByteArray) (j : Nat) (w : World) (h : Rdr w g s j) (hj : j < s.size) (hs : s.size ≤ maxLen) :
    Calls Try.prog 26 #[.pointer (some ⟨g, 0, none⟩)] w fun e w' => e = .returned (.int .u8 (s[j].toNat : Int)) ∧ Rdr w' g s (j + 1) ∧ w.grownBy w' (some g) := by
  obtain ⟨c0, c1, f1⟩ := h.cells
  have H := Lib.hid h
  clear h
  unfold maxLen at hs
  go_enter Try.func26, Try.ntmps26
  go_wp2_with fail
  go_quiet (fail)
  go_wp2_with fail
  have hR : Rdr ((w.drewN nq).setCell ⟨g, 1, none⟩ (.int .i64 (j + 1))) g s (j + 1) := Rdr.step H.out nq
  have hG : w.grownBy ((w.drewN nq).setCell ⟨g, 1, none⟩ (.int .i64 (j + 1))) (some g) := grownBy_trans (grownBy_drewN _ _ _) (grownBy_setCell _ _ _ _) (.inl rfl)
  generalize (w.drewN nq).setCell ⟨g, 1, none⟩ (.int .i64 ((j : Int) + 1)) = w1 at hR hG ⊢
  obtain ⟨d0, d1, _⟩ := hR.cells
  have HR := Lib.hid hR
  have d2 : w1.cell? ⟨g, 1, none⟩ = some (.int .i64 ((j : Int) + 1)) := by simpa using d1
  have HG := Lib.hid hG
  clear hR hG c0 c1 f1 d1
  have e1 : (j : Int) + 1 - 1 = j := by omega
  go_quiet (fail)
  go_wp2
  go_ret
  exact ⟨rfl, HR.out, grownBy_trans HG.out (grownBy_drewN _ _ _) (.inl rfl)⟩

end Go.Proofs.Ytapichngakcpeaa
