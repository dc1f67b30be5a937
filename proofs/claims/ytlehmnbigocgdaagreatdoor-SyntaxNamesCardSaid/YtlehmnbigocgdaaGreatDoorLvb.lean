/- What the reader's taker makes, and what the function that it answers does: the walks. Conditions: a reader in a block of its own; a function of octets that leaves memory alone. -/
import Derived.Test.YtlehmnbigocgdaaGreatDoorLva
namespace Go.Proofs.YtlehmnbigocgdaaGreatDoor.Lx
open Go.RowKit
set_option linter.unusedSimpArgs false
set_option linter.unusedVariables false

theorem grownBy_trans {w w1 w2 : World} {r r' : Option Nat} (h : w.grownBy w1 r) (k : w1.grownBy w2 r') (hr : r' = r ∨ ∀ g, r' = some g → w.heap.size ≤ g) : w.grownBy w2 r := by
  refine ⟨k.os.trans h.os, k.tape.trans h.tape, k.output.trans h.output, Nat.le_trans h.size k.size, fun i hi hne => (k.block i (Nat.lt_of_lt_of_le hi h.size) ?_).trans (h.block i hi hne)⟩
  rcases hr with rfl | hr
  · exact hne
  · intro e; have := hr i e.symm; omega
theorem grownBy_drewN (w : World) (n : Nat) (r : Option Nat) : w.grownBy (w.drewN n) r := ⟨rfl, rfl, rfl, Nat.le_refl _, fun _ _ _ => rfl⟩
theorem grownBy_setCell (w : World) (g o : Nat) (v : Value) : w.grownBy (w.setCell ⟨g, o, none⟩ v) (some g) :=
  ⟨rfl, rfl, rfl, by simp [World.setCell], fun k _ hk => Below.heap_setCell _ _ _ _ (fun e => hk (by simp [e]))⟩

/-- Block g holds a reader of s at place j. -/
def Rdr (w : World) (g : Nat) (s : ByteArray) (j : Nat) : Prop := w.heap[g]? = some (.cells #[.string s, .int .i64 j] 89 (0, 0))
theorem Rdr.lt {w : World} {g j : Nat} {s : ByteArray} (h : Rdr w g s j) : g < w.heap.size := by
  rcases Nat.lt_or_ge g w.heap.size with h' | h'
  · exact h'
  · unfold Rdr at h; rw [Array.getElem?_eq_none h'] at h; cases h
theorem Rdr.cells {w : World} {g j : Nat} {s : ByteArray} (h : Rdr w g s j) : w.cell? ⟨g, 0, none⟩ = some (.string s) ∧ w.cell? ⟨g, 1, none⟩ = some (.int .i64 j) ∧ w.frozen? ⟨g, 1, none⟩ = false := by
  unfold Rdr at h
  refine ⟨?_, ?_, ?_⟩
  · simp [World.cell?, h]
  · simp [World.cell?, h]
  · simp [World.frozen?, h]
theorem Rdr.grown {w w' : World} {g j : Nat} {s : ByteArray} {row : Option Nat} (h : Rdr w g s j) (hg : w.grownBy w' row) (hne : row ≠ some g) : Rdr w' g s j :=
  (hg.block g h.lt (fun e => hne e.symm)).trans h
theorem Rdr.step {w : World} {g j : Nat} {s : ByteArray} (h : Rdr w g s j) (n i : Nat) : Rdr ((w.drewN n).setCell ⟨g, 1, none⟩ (.int .i64 ((j : Int) + i))) g s (j + i) := by
  have h' : (w.drewN n).heap[g]? = some (.cells #[.string s, .int .i64 j] 89 (0, 0)) := h
  have := heap_setCell_same (w.drewN n) g 1 #[.string s, .int .i64 j] 89 (.int .i64 ((j : Int) + i)) h'
  unfold Rdr
  rw [this]
  simp
theorem Rdr.drewN {w : World} {g j : Nat} {s : ByteArray} (h : Rdr w g s j) (n : Nat) : Rdr (w.drewN n) g s j := h

/-- Block b holds one cell. -/
def One (w : World) (b : Nat) (t : TypeId) (v : Value) : Prop := w.heap[b]? = some (.cells #[v] t (0, 0))
theorem One.lt {w : World} {b : Nat} {t : TypeId} {v : Value} (h : One w b t v) : b < w.heap.size := by
  rcases Nat.lt_or_ge b w.heap.size with h' | h'
  · exact h'
  · unfold One at h; rw [Array.getElem?_eq_none h'] at h; cases h
theorem One.cells {w : World} {b : Nat} {t : TypeId} {v : Value} (h : One w b t v) : w.cell? ⟨b, 0, none⟩ = some v ∧ w.frozen? ⟨b, 0, none⟩ = false := by
  unfold One at h
  refine ⟨?_, ?_⟩ <;> simp [World.cell?, World.frozen?, h]
theorem One.grown {w w' : World} {b : Nat} {t : TypeId} {v : Value} {row : Option Nat} (h : One w b t v) (hg : w.grownBy w' row) (hne : row ≠ some b) : One w' b t v :=
  (hg.block b h.lt (fun e => hne e.symm)).trans h

/-- A taker: two captured variables, the reader and the function that fits. -/
structure Tkr (w : World) (b g F : Nat) : Prop where
  c0 : One w b 128 (.pointer (some ⟨g, 0, none⟩))
  c1 : One w (b + 1) 76 (.func (.func F) #[] #[])
  ne0 : g ≠ b
  ne1 : g ≠ b + 1
theorem Tkr.grown {w w' : World} {b g F : Nat} {row : Option Nat} (h : Tkr w b g F) (hg : w.grownBy w' row) (h0 : row ≠ some b) (h1 : row ≠ some (b + 1)) : Tkr w' b g F :=
  ⟨h.c0.grown hg h0, h.c1.grown hg h1, h.ne0, h.ne1⟩

set_option maxHeartbeats 400000 in
theorem taker_any (g F : Nat) (w : World) (hg : g < w.heap.size) :
    Calls Tryz.prog 118 #[.pointer (some ⟨g, 0, none⟩), .func (.func F) #[] #[]] w fun e w' => e = .returned (.func (.func 134) #[] #[.pointer (some ⟨w.heap.size, 0, none⟩), .pointer (some ⟨w.heap.size + 1, 0, none⟩)]) ∧ Tkr w' w.heap.size g F ∧ w.grownBy w' none := by
  have hmf : ∀ (fn : Fn) (first cap : Array Value) (w : World), (Instr.makeFunc fn first cap).run Tryz.prog w = .ok (.func fn first cap) w := fun _ _ _ _ => rfl
  have HG := Lib.hid hg
  clear hg
  go_enter Tryz.func118, Tryz.ntmps118
  go_wp2
  go_ret
  refine ⟨rfl, ⟨?_, ?_, by have := HG.out; omega, by have := HG.out; omega⟩, grownBy_trans (World.grownBy_alloc _ _ none) (World.grownBy_alloc _ _ none) (.inl rfl)⟩
  · have h : One (w.alloc (.cells #[.pointer (some ⟨g, 0, none⟩)] 128)) w.heap.size 128 (.pointer (some ⟨g, 0, none⟩)) := heap_alloc_new w _
    exact h.grown (World.grownBy_alloc _ _ none) (by simp)
  · have := heap_alloc_new (w.alloc (.cells #[.pointer (some ⟨g, 0, none⟩)] 128)) (.cells #[.func (.func F) #[] #[]] 76)
    rw [World.size_alloc] at this
    exact this

set_option maxHeartbeats 1000000 in
theorem take_end (b g F : Nat) (s : ByteArray) (w : World) (h : Rdr w g s s.size) (ht : Tkr w b g F) :
    Calls Tryz.prog 134 #[.pointer (some ⟨b, 0, none⟩), .pointer (some ⟨b + 1, 0, none⟩)] w fun e w' => e = .returned (.bool false) ∧ Rdr w' g s s.size ∧ w.grownBy w' (some g) := by
  obtain ⟨c0, c1, f1⟩ := h.cells
  obtain ⟨d0, _⟩ := ht.c0.cells
  obtain ⟨d1, _⟩ := ht.c1.cells
  have H := Lib.hid h
  clear h ht
  go_enter Tryz.func134, Tryz.ntmps134
  go_wp2_with fail
  have hd : ((s.size : Int) == (s.size : Int)) = true := by simp
  go_quiet (fail)
  go_wp2
  go_ret
  exact ⟨rfl, H.out.drewN _, grownBy_drewN _ _ _⟩

/-- F is one of the functions that tell which octets fit, and tells p. -/
structure Fits (F : Nat) (p : UInt8 → Bool) : Prop where
  one : F = 88 ∨ F = 90 ∨ F = 93 ∨ F = 95 ∨ F = 120 ∨ F = 122
  tells : ∀ (c : UInt8) (w : World), Calls Tryz.prog F #[.int .u8 (c.toNat : Int)] w fun e w' => e = .returned (.bool (p c)) ∧ w = w'
theorem fits20 : Fits 88 isBlk := ⟨by decide, isBlank_any⟩
theorem fits22 : Fits 90 isLin := ⟨by decide, isWithinLine_any⟩
theorem fits25 : Fits 93 isDig := ⟨by decide, isDigit_any⟩
theorem fits27 : Fits 95 isQuo := ⟨by decide, isQuote_any⟩
theorem fits35 : Fits 120 isWrd := ⟨by decide, isWithinWord_any⟩
theorem fits38 : Fits 122 isNqu := ⟨by decide, isWithinQuotes_any⟩

set_option maxHeartbeats 8000000 in
theorem take_no (b g F : Nat) (p : UInt8 → Bool) (hF : Fits F p) (s : ByteArray) (j : Nat) (w : World) (h : Rdr w g s j) (ht : Tkr w b g F) (hj : j < s.size) (hs : s.size ≤ maxLen) (hp : p s[j] = false) :
    Calls Tryz.prog 134 #[.pointer (some ⟨b, 0, none⟩), .pointer (some ⟨b + 1, 0, none⟩)] w fun e w' => e = .returned (.bool false) ∧ Rdr w' g s j ∧ w.grownBy w' (some g) := by
  obtain ⟨c0, c1, f1⟩ := h.cells
  obtain ⟨d0, _⟩ := ht.c0.cells
  obtain ⟨d1, _⟩ := ht.c1.cells
  have H := Lib.hid h
  clear h ht
  unfold maxLen at hs
  have hF1 : ∀ w, Calls Tryz.prog F #[.int .u8 (s[j].toNat : Int)] w fun e w' => e = .returned (.bool false) ∧ w' = w := fun w => (hF.tells s[j] w).mono fun e w' ⟨h1, h2⟩ => ⟨by rw [h1, hp], h2.symm⟩
  have hone := hF.one
  clear hF hp
  have hd : ((j : Int) == (s.size : Int)) = false := by simp; omega
  rcases hone with rfl | rfl | rfl | rfl | rfl | rfl
  all_goals
    go_enter Tryz.func134, Tryz.ntmps134
    go_wp2_with fail
    go_quiet (exact Calls.quiet_of_same (hF1 _))
    go_wp2
    go_ret
    exact ⟨rfl, H.out.drewN _, grownBy_drewN _ _ _⟩

set_option maxHeartbeats 8000000 in
theorem take_yes (b g F : Nat) (p : UInt8 → Bool) (hF : Fits F p) (s : ByteArray) (j : Nat) (w : World) (h : Rdr w g s j) (ht : Tkr w b g F) (hj : j < s.size) (hs : s.size ≤ maxLen) (hp : p s[j] = true) :
    Calls Tryz.prog 134 #[.pointer (some ⟨b, 0, none⟩), .pointer (some ⟨b + 1, 0, none⟩)] w fun e w' => e = .returned (.bool true) ∧ Rdr w' g s (j + 1) ∧ w.grownBy w' (some g) := by
  obtain ⟨c0, c1, f1⟩ := h.cells
  obtain ⟨d0, _⟩ := ht.c0.cells
  obtain ⟨d1, _⟩ := ht.c1.cells
  have H := Lib.hid h
  clear h ht
  unfold maxLen at hs
  have hF1 : ∀ w, Calls Tryz.prog F #[.int .u8 (s[j].toNat : Int)] w fun e w' => e = .returned (.bool true) ∧ w' = w := fun w => (hF.tells s[j] w).mono fun e w' ⟨h1, h2⟩ => ⟨by rw [h1, hp], h2.symm⟩
  have hone := hF.one
  clear hF hp
  have hd : ((j : Int) == (s.size : Int)) = false := by simp; omega
  rcases hone with rfl | rfl | rfl | rfl | rfl | rfl
  all_goals
    go_enter Tryz.func134, Tryz.ntmps134
    go_wp2_with fail
    go_quiet (exact Calls.quiet_of_same (hF1 _))
    go_wp2
    go_ret
    exact ⟨rfl, by simpa using H.out.step _ 1, grownBy_trans (grownBy_drewN _ _ _) (grownBy_setCell _ _ _ _) (.inl rfl)⟩
end Go.Proofs.YtlehmnbigocgdaaGreatDoor.Lx
