/- The form of each kind of statement: the walk of formOf; spans. Conditions: none. -/
import Derived.Test.YtipcacplphidhaaGreatTj
import Derived.Deep.MidRow
namespace Go.Proofs.YtipcacplphidhaaGreat.Sy
open Go.RowKit
set_option linter.unusedSimpArgs false
set_option linter.unusedVariables false

/-- How many each kind of statement has in each field: the least and the most. -/
def gTab : List (List (Int × Int)) := [[(0, 0), (0, 0), (0, 0), (0, 0), (0, 0), (0, 0), (0, 0), (0, 0), (0, 0), (0, 0), (0, 0), (0, 0)], [(1, 1), (1, 1), (0, 0), (0, 0), (1, 8), (0, 0), (0, 0), (0, 0), (0, 0), (0, 0), (0, 0), (0, 0)], [(1, 1), (1, 1), (1, 1), (0, 0), (0, 0), (0, 0), (0, 0), (0, 0), (0, 0), (0, 0), (0, 0), (0, 0)], [(1, 1), (0, 0), (0, 0), (0, 0), (0, 0), (0, 0), (0, 0), (0, 0), (0, 0), (0, 0), (0, 0), (0, 0)], [(1, 1), (0, 0), (0, 0), (0, 0), (0, 0), (1, 16), (0, 0), (0, 0), (0, 0), (0, 0), (0, 0), (0, 0)], [(1, 1), (0, 0), (0, 0), (0, 0), (0, 0), (0, 0), (1, 8), (0, 0), (0, 1), (0, 0), (0, 0), (0, 0)], [(1, 1), (0, 0), (0, 0), (0, 0), (0, 0), (0, 0), (0, 0), (0, 0), (0, 1), (0, 0), (0, 0), (0, 0)], [(1, 1), (0, 0), (0, 0), (0, 1), (0, 0), (0, 0), (0, 0), (1, 16), (0, 1), (0, 1), (0, 8), (-1, 2147483648)], [(0, 0), (0, 0), (0, 0), (0, 0), (0, 0), (0, 0), (0, 0), (0, 0), (0, 0), (0, 0), (0, 0), (0, 0)], [(0, 0), (0, 0), (0, 0), (0, 0), (0, 0), (0, 0), (0, 0), (0, 0), (0, 0), (0, 0), (0, 0), (0, 0)], [(0, 0), (0, 0), (0, 0), (0, 0), (0, 0), (0, 0), (0, 0), (0, 0), (0, 0), (0, 0), (0, 0), (0, 0)]]
def gL (k i : Nat) : Int := ((gTab.getD k []).getD i (0, 0)).1
def gH (k i : Nat) : Int := ((gTab.getD k []).getD i (0, 0)).2
def gRow (k : Nat) : List Value := [Value.int .i64 (gL k 0), .int .i64 (gH k 0), Value.int .i64 (gL k 1), .int .i64 (gH k 1), Value.int .i64 (gL k 2), .int .i64 (gH k 2), Value.int .i64 (gL k 3), .int .i64 (gH k 3), Value.int .i64 (gL k 4), .int .i64 (gH k 4), Value.int .i64 (gL k 5), .int .i64 (gH k 5), Value.int .i64 (gL k 6), .int .i64 (gH k 6), Value.int .i64 (gL k 7), .int .i64 (gH k 7), Value.int .i64 (gL k 8), .int .i64 (gH k 8), Value.int .i64 (gL k 9), .int .i64 (gH k 9), Value.int .i64 (gL k 10), .int .i64 (gH k 10), Value.int .i64 (gL k 11), .int .i64 (gH k 11)]
def gCells : Array Value := ((List.range 11).flatMap gRow).toArray
theorem gCells_at (k : Nat) (hk : k < 11) (i : Nat) (v : Value) (h : (gRow k)[i]? = some v) : gCells[k * 24 + i]? = some v := by
  have hi : i < 24 := (List.getElem?_eq_some_iff.1 h).1
  have h' := flat_get (f := gRow) (k := 24) (fun _ => rfl) (List.range 11) k i k (by simp [hk]) hi
  unfold gCells
  rw [List.getElem?_toArray, h', h]
theorem gRow_one (k : Nat) : (gRow k).toArray.all (·.oneCell') = true := by simp [gRow, Value.oneCell']
theorem add0 (g j : Nat) : (⟨g, 0, none⟩ : Addr).add j = ⟨g, j, none⟩ := by unfold Addr.add; split <;> simp_all
theorem below4 (w : World) (o p q r : Obj) : Below w.heap.size w ((((w.alloc o).alloc p).alloc q).alloc r) := (below3 w o p q).alloc (by simp; omega) r

theorem below5 (w : World) (o p q r s : Obj) : Below w.heap.size w (((((w.alloc o).alloc p).alloc q).alloc r).alloc s) := (below4 w o p q r).alloc (by simp; omega) s
theorem heap5 (w : World) (o p q r s : Obj) : (((((w.alloc o).alloc p).alloc q).alloc r).alloc s).heap.size = w.heap.size + 5 ∧ (((((w.alloc o).alloc p).alloc q).alloc r).alloc s).heap[w.heap.size]? = some o ∧ (((((w.alloc o).alloc p).alloc q).alloc r).alloc s).heap[w.heap.size + 1]? = some p ∧
    (((((w.alloc o).alloc p).alloc q).alloc r).alloc s).heap[w.heap.size + 1 + 1]? = some q ∧ (((((w.alloc o).alloc p).alloc q).alloc r).alloc s).heap[w.heap.size + 1 + 1 + 1]? = some r ∧ (((((w.alloc o).alloc p).alloc q).alloc r).alloc s).heap[w.heap.size + 1 + 1 + 1 + 1]? = some s := by
  have n0 := heap_alloc_new w o
  have n1 := heap_alloc_new (w.alloc o) p
  have n2 := heap_alloc_new ((w.alloc o).alloc p) q
  have n3 := heap_alloc_new (((w.alloc o).alloc p).alloc q) r
  have n4 := heap_alloc_new ((((w.alloc o).alloc p).alloc q).alloc r) s
  simp only [World.size_alloc] at n1 n2 n3 n4
  refine ⟨by simp, ?_, ?_, ?_, ?_, n4⟩
  · iterate 4 rw [Below.heap_alloc _ _ _ (by first | (simp; done) | (simp; omega))]
    exact n0
  · iterate 3 rw [Below.heap_alloc _ _ _ (by first | (simp; done) | (simp; omega))]
    exact n1
  · iterate 2 rw [Below.heap_alloc _ _ _ (by first | (simp; done) | (simp; omega))]
    exact n2
  · rw [Below.heap_alloc _ _ _ (by simp)]
    exact n3

set_option maxHeartbeats 8000000 in
set_option maxRecDepth 100000 in
theorem formOf_any (k : Nat) (h1 : 1 ≤ k) (h2 : k ≤ 10) (w : World) : Calls Tryz.prog 63 #[.int .i64 k] w fun e w' => e = .returned (.agg #[.int .i64 (gL k 0), .int .i64 (gH k 0), .int .i64 (gL k 1), .int .i64 (gH k 1), .int .i64 (gL k 2), .int .i64 (gH k 2), .int .i64 (gL k 3), .int .i64 (gH k 3), .int .i64 (gL k 4), .int .i64 (gH k 4), .int .i64 (gL k 5), .int .i64 (gH k 5), .int .i64 (gL k 6), .int .i64 (gH k 6), .int .i64 (gL k 7), .int .i64 (gH k 7), .int .i64 (gL k 8), .int .i64 (gH k 8), .int .i64 (gL k 9), .int .i64 (gH k 9), .int .i64 (gL k 10), .int .i64 (gH k 10), .int .i64 (gL k 11), .int .i64 (gH k 11)]) ∧ Below w.heap.size w w' := by
  go_enter Tryz.func63, Tryz.ntmps63
  go_upto_region 3 with (fail)
  have hB0 := below5 w (.cells #[.int .i64 0, .int .i64 0, .int .i64 0, .int .i64 0, .int .i64 0, .int .i64 0, .int .i64 0, .int .i64 0, .int .i64 0, .int .i64 0, .int .i64 0, .int .i64 0, .int .i64 0, .int .i64 0, .int .i64 0, .int .i64 0, .int .i64 0, .int .i64 0, .int .i64 0, .int .i64 0, .int .i64 0, .int .i64 0, .int .i64 0, .int .i64 0] 125) (.cells #[.int .i64 1, .int .i64 1] 123) (.cells #[.int .i64 0, .int .i64 1] 123) (.cells #[.int .i64 1, .int .i64 8] 123) (.cells #[.int .i64 1, .int .i64 16] 123)
  obtain ⟨hz0, e0, e1, e2, e3, e4⟩ := heap5 w (.cells #[.int .i64 0, .int .i64 0, .int .i64 0, .int .i64 0, .int .i64 0, .int .i64 0, .int .i64 0, .int .i64 0, .int .i64 0, .int .i64 0, .int .i64 0, .int .i64 0, .int .i64 0, .int .i64 0, .int .i64 0, .int .i64 0, .int .i64 0, .int .i64 0, .int .i64 0, .int .i64 0, .int .i64 0, .int .i64 0, .int .i64 0, .int .i64 0] 125) (.cells #[.int .i64 1, .int .i64 1] 123) (.cells #[.int .i64 0, .int .i64 1] 123) (.cells #[.int .i64 1, .int .i64 8] 123) (.cells #[.int .i64 1, .int .i64 16] 123)
  generalize (((((w.alloc (.cells #[.int .i64 0, .int .i64 0, .int .i64 0, .int .i64 0, .int .i64 0, .int .i64 0, .int .i64 0, .int .i64 0, .int .i64 0, .int .i64 0, .int .i64 0, .int .i64 0, .int .i64 0, .int .i64 0, .int .i64 0, .int .i64 0, .int .i64 0, .int .i64 0, .int .i64 0, .int .i64 0, .int .i64 0, .int .i64 0, .int .i64 0, .int .i64 0] 125)).alloc (.cells #[.int .i64 1, .int .i64 1] 123)).alloc (.cells #[.int .i64 0, .int .i64 1] 123)).alloc (.cells #[.int .i64 1, .int .i64 8] 123)).alloc (.cells #[.int .i64 1, .int .i64 16] 123)) = W0 at hB0 hz0 e0 e1 e2 e3 e4 ⊢
  obtain ⟨c0, c1, c2, c3, c4, c5, c6, c7⟩ : W0.cell? ⟨w.heap.size + 1, 0, none⟩ = some (.int .i64 1) ∧ W0.cell? ⟨w.heap.size + 1, 1, none⟩ = some (.int .i64 1) ∧ W0.cell? ⟨w.heap.size + 1 + 1, 0, none⟩ = some (.int .i64 0) ∧ W0.cell? ⟨w.heap.size + 1 + 1, 1, none⟩ = some (.int .i64 1) ∧ W0.cell? ⟨w.heap.size + 1 + 1 + 1, 0, none⟩ = some (.int .i64 1) ∧ W0.cell? ⟨w.heap.size + 1 + 1 + 1, 1, none⟩ = some (.int .i64 8) ∧ W0.cell? ⟨w.heap.size + 1 + 1 + 1 + 1, 0, none⟩ = some (.int .i64 1) ∧ W0.cell? ⟨w.heap.size + 1 + 1 + 1 + 1, 1, none⟩ = some (.int .i64 16) := by simp [World.cell?, e1, e2, e3, e4]
  have HZ := Lib.hid hz0
  have HB0 := Lib.hid hB0
  have hlt1 : w.heap.size < W0.heap.size := by omega
  have hlt2 : w.heap.size + 1 < W0.heap.size := by omega
  have hlt3 : w.heap.size + 1 + 1 < W0.heap.size := by omega
  have hlt4 : w.heap.size + 1 + 1 + 1 < W0.heap.size := by omega
  have hlt5 : w.heap.size + 1 + 1 + 1 + 1 < W0.heap.size := by omega
  have HE0 := Lib.hid e0
  clear hB0 hz0 e0 e1 e2 e3 e4
  go_upto_region 4 with (first | (refine build_as rfl 146 _ rfl gCells (by kernel_rfl) ?_) | (refine wpList_store_row rfl 146 (.tmp 7) (.tmp 43) rfl W0.heap.size gCells rfl rfl 146 _ (heap_alloc_new _ _) (by kernel_rfl) (by kernel_rfl) (by kernel_rfl) ?_))
  have hF : ((W0.alloc (.cells Tryz.zeroCells146 146)).setRow W0.heap.size gCells).heap[W0.heap.size]? = some (.cells gCells 146 (0, 0)) := setRow_heap _ _ _ _ _ _ (heap_alloc_new W0 _)
  have hR : ((W0.alloc (.cells Tryz.zeroCells146 146)).setRow W0.heap.size gCells).heap[w.heap.size]? = some (.cells #[.int .i64 0, .int .i64 0, .int .i64 0, .int .i64 0, .int .i64 0, .int .i64 0, .int .i64 0, .int .i64 0, .int .i64 0, .int .i64 0, .int .i64 0, .int .i64 0, .int .i64 0, .int .i64 0, .int .i64 0, .int .i64 0, .int .i64 0, .int .i64 0, .int .i64 0, .int .i64 0, .int .i64 0, .int .i64 0, .int .i64 0, .int .i64 0] 125 (0, 0)) := by
    rw [setRow_other _ _ _ _ (by omega), Below.heap_alloc _ _ _ (by omega), HE0.out]
  have hB := below_setRow (HB0.out.alloc (by omega) (.cells Tryz.zeroCells146 146)) (g := W0.heap.size) (cs := gCells) (by omega)
  generalize ((W0.alloc (.cells Tryz.zeroCells146 146)).setRow W0.heap.size gCells) = W at hF hR hB ⊢
  have hc : W.rangeAt W0.heap.size (k * 24) (gRow k) := fun j v h => by
    have := gCells_at k (by omega) j v h
    simp [World.cell?, hF, this]
  have HB := Lib.hid hB
  have HR := Lib.hid hR
  have HC := Lib.hid hc
  clear hF hR hc hB HE0 HB0 HZ hlt1 hlt2 hlt3 hlt4 hlt5
  have h1' := gRow_one k
  go_wp2_with (first | (refine wpList_load_mid rfl 125 (.tmp 45) rfl W0.heap.size (k * 24) (by simp [Act.eval]) (gRow k) _ HC.out Tryz.underlying125 rfl (by kernel_rfl) ?_) | (refine wpList_store_row rfl 125 (.tmp 2) (.tmp 46) rfl w.heap.size (gRow k).toArray rfl rfl 125 _ HR.out (by kernel_rfl) rfl h1' ?_))
  refine bodyPost_ret (v := .agg (gRow k).toArray) (results_cell_row rfl _ _ w.heap.size 125 (gRow k).toArray (0, 0) _ rfl (setRow_heap _ _ _ _ _ _ HR.out) Tryz.underlying125 rfl (by kernel_rfl)) rfl ⟨rfl, ?_⟩
  exact below_setRow HB.out (Nat.le_refl _)
end Go.Proofs.YtipcacplphidhaaGreat.Sy
