/- The page's examples come out as the page says: the walk of alive. Conditions: none. -/
import Derived.Test.YtapichngakcpeaaVf
namespace Go.Proofs.Ytapichngakcpeaa
open Go.RowKit
set_option linter.unusedSimpArgs false
set_option linter.unusedVariables false

def valC (v : Vl) : List Value := [.int .i64 v.k, .int .i64 v.n, .string v.s]
theorem flat_get : ∀ (l : List Vl) (j i : Nat) (v : Vl), l[j]? = some v → i < 3 → (l.flatMap valC)[j * 3 + i]? = (valC v)[i]?
  | [], j, i, v, h, _ => by simp at h
  | a :: l, 0, i, v, h, hi => by
    simp at h; subst h
    rw [List.flatMap_cons, List.getElem?_append_left (by simp [valC]; omega)]
    simp
  | a :: l, j + 1, i, v, h, hi => by
    rw [List.flatMap_cons, List.getElem?_append_right (by simp [valC]; omega)]
    have e : (j + 1) * 3 + i - (valC a).length = j * 3 + i := by simp [valC]; omega
    rw [e]
    exact flat_get l j i v (by simpa using h) hi
theorem flat_len (l : List Vl) : (l.flatMap valC).length = l.length * 3 := by
  induction l with
  | nil => rfl
  | cons a l ih => simp [valC, ih]; omega
/-- Cells that lie in one row of block g. -/
theorem RdL_row {w : World} {g B : Nat} {l : List Vl} (hB : g < B) (h : ∀ i, i < l.length * 3 → w.cell? ⟨g, i, none⟩ = (l.flatMap valC)[i]?) : RdL w B (some ⟨g, 0, none⟩) l := fun _ =>
  ⟨_, rfl, hB, fun j v hj => by
    have e : (⟨g, 0, none⟩ : Addr).add (j * 3) = ⟨g, j * 3, none⟩ := by unfold Addr.add; split <;> simp_all
    have hl : j < l.length := (List.getElem?_eq_some_iff.1 hj).1
    rw [e]
    refine ⟨?_, ?_, ?_⟩
    · exact (h (j * 3) (by omega)).trans (flat_get l j 0 v hj (by omega))
    · exact (h (j * 3 + 1) (by omega)).trans (flat_get l j 1 v hj (by omega))
    · exact (h (j * 3 + 2) (by omega)).trans (flat_get l j 2 v hj (by omega))⟩
theorem RdL_new (w : World) (l : List Vl) (cs : Array Value) (t : TypeId) (B : Nat) (h : cs.toList = l.flatMap valC) (hB : w.heap.size < B) : RdL (w.alloc (.cells cs t)) B (some ⟨w.heap.size, 0, none⟩) l :=
  RdL_row hB fun i _ => by rw [World.cell?_alloc_mark w cs t (0, 0) i, ← h]; simp

theorem need_one {m : Nat} (h0 : 0 < m) (h : m < 256) : need m = 1 := by
  rw [need_pos (by omega)]
  have : m / 256 = 0 := by omega
  rw [this, need_zero]
theorem need_two {m : Nat} (h0 : 256 ≤ m) (h : m < 65536) : need m = 2 := by
  rw [need_pos (by omega), need_one (by omega) (by omega)]

def exL : List Vl := [⟨1, 0, ⟨#[]⟩⟩, ⟨1, 258, ⟨#[]⟩⟩, ⟨1, -256, ⟨#[]⟩⟩, ⟨3, 0, ⟨#[97]⟩⟩]
theorem exT : encE exL = 0 ∧ encT exL = [64, 66, 1, 2, 62, 0, 96, 97, 0] := by
  have h0 : encE exL = 0 := by decide +kernel
  refine ⟨h0, ?_⟩
  have e1 : need (amt 258) = 2 := need_two (by decide) (by decide)
  have e2 : need (amt (-256)) = 1 := need_one (by decide) (by decide)
  have e3 : need (amt 0) = 0 := need_zero
  unfold encT
  rw [if_pos h0]
  simp [exL, encL, enc1, numK, e1, e2, e3, textK, esc, esc1, octs]
  decide +kernel

theorem exN : numsL exL := by
  intro v hv
  simp [exL] at hv
  rcases hv with rfl | rfl | rfl | rfl <;> decide

set_option maxHeartbeats 1000000 in
theorem alive_any (w : World) : Calls Try.prog 9 #[] w fun e w' => e = .returned (.bool true) ∧ Below w.heap.size w w' := by
  have hc : ∀ w : World, Calls Try.prog 10 #[.slice (some ⟨w.heap.size, 0, none⟩) 4 4] (w.alloc (.cells #[.int .i64 1, .int .i64 0, .string ⟨#[]⟩, .int .i64 1, .int .i64 258, .string ⟨#[]⟩, .int .i64 1, .int .i64 (-256), .string ⟨#[]⟩, .int .i64 3, .int .i64 0, .string ⟨#[97]⟩] 36)) fun e w' => e = .returned (.tuple #[.string ⟨#[64, 66, 1, 2, 62, 0, 96, 97, 0]⟩, .int .i64 0]) ∧ Below w.heap.size w w' := fun w =>
    (encode_any _ 4 4 exL _ rfl (RdL_new w exL _ 36 _ rfl (by simp)) exN).mono fun e w' ⟨h1, h2⟩ => ⟨by rw [h1, exT.1, exT.2], (below1 w _).trans (h2.mono (by simp))⟩
  go_enter Try.func9, Try.ntmps9
  go_wp2_with (first | (go_at_call 10; refine (hc _).mono ?_; rintro e w1 ⟨rfl, hb⟩) | (go_at_call 11; refine (num_any _ _).mono ?_; rintro e w2 ⟨rfl, rfl⟩))
  go_ret
  exact ⟨rfl, hb⟩

end Go.Proofs.Ytapichngakcpeaa
