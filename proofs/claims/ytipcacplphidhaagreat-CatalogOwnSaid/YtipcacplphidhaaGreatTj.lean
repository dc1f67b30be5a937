/- The form of each op: the walk of formOfOp. Conditions: none. -/
import Derived.Test.YtipcacplphidhaaGreatTi
import Derived.Test.YtipcacplphidhaaGreatTc
import Derived.Laws.Tables
namespace Go.Proofs.YtipcacplphidhaaGreat.Sy
open Go.RowKit
set_option linter.unusedSimpArgs false
set_option linter.unusedVariables false

/-- An op's form: how many Args, what is ahead of them, between them, behind them. -/
def fTab : List (Int × List UInt8 × List UInt8 × List UInt8) := [(0, [], [], []), (0, [], [], []), (1, [40, 45], [], [41]), (1, [40, 78, 79, 84, 32], [], [41]), (2, [40], [32, 43, 32], [41]), (2, [40], [32, 45, 32], [41]), (2, [40], [32, 42, 32], [41]), (2, [40], [32, 47, 32], [41]), (2, [40], [32, 61, 32], [41]), (2, [40], [32, 60, 62, 32], [41]), (2, [40], [32, 60, 32], [41]), (2, [40], [32, 60, 61, 32], [41]), (2, [40], [32, 62, 32], [41]), (2, [40], [32, 62, 61, 32], [41]), (2, [40], [32, 65, 78, 68, 32], [41]), (2, [40], [32, 79, 82, 32], [41]), (1, [40], [], [32, 73, 83, 32, 78, 85, 76, 76, 41]), (1, [40], [], [32, 73, 83, 32, 78, 79, 84, 32, 78, 85, 76, 76, 41]), (0, [67, 79, 85, 78, 84, 40, 42], [], [41]), (1, [67, 79, 85, 78, 84, 40], [], [41]), (1, [83, 85, 77, 40], [], [41]), (1, [77, 73, 78, 40], [], [41]), (1, [77, 65, 88, 40], [], [41])]
def fA (k : Nat) : Int := (fTab.getD k (0, [], [], [])).1
def fH (k : Nat) : ByteArray := ⟨(fTab.getD k (0, [], [], [])).2.1.toArray⟩
def fB (k : Nat) : ByteArray := ⟨(fTab.getD k (0, [], [], [])).2.2.1.toArray⟩
def fE (k : Nat) : ByteArray := ⟨(fTab.getD k (0, [], [], [])).2.2.2.toArray⟩
def fCells : Array Value := ((List.range 23).flatMap fun k => [Value.int .i64 (fA k), .string (fH k), .string (fB k), .string (fE k)]).toArray

theorem heap_two (w : World) (o p : Obj) : ((w.alloc o).alloc p).heap[w.heap.size + 1]? = some p := by
  have := heap_alloc_new (w.alloc o) p
  rw [World.size_alloc] at this
  exact this
/-- A table laid by its parts, the cells known. -/
theorem build_as {P : Program} {ops : Array Oper} {rest : List Oper} {o : Oper} {a : Act} {w : World} {Q : Exit → Act → World → Prop} (hg : o.guard = none) (t : TypeId) (parts : Array (Nat × Operand)) (ho : o.op = .build t parts) (cells : Array Value)
    (hb : P.built t (parts.map fun (i, x) => (i, a.eval x)).toList = some cells)
    (h : wpList P ops Q rest (a.put o.dst (.agg cells)) w) : wpList P ops Q (o :: rest) a w :=
  wpList_build hg t parts ho (by rw [hb]; rfl) (by rw [hb]; exact h)

theorem below_setRow {B g : Nat} {a w : World} {cs : Array Value} (h : Below B a w) (hg : B ≤ g) : Below B a (w.setRow g cs) :=
  ⟨h.os, h.tape, h.output, by rw [setRow_size]; exact h.size, fun k hk => (setRow_other w g k cs (by omega)).trans (h.block k hk)⟩
/-- A row of a table in memory. -/
theorem fCells_at (k : Nat) (hk : k < 23) : fCells[k * 4]? = some (.int .i64 (fA k)) ∧ fCells[k * 4 + 1]? = some (.string (fH k)) ∧ fCells[k * 4 + 2]? = some (.string (fB k)) ∧ fCells[k * 4 + 3]? = some (.string (fE k)) := by
  have h := fun i hi => flat_get (f := fun k : Nat => [Value.int .i64 (fA k), .string (fH k), .string (fB k), .string (fE k)]) (k := 4) (fun _ => rfl) (List.range 23) k i k (by simp [hk]) hi
  unfold fCells
  simp only [List.getElem?_toArray]
  exact ⟨(h 0 (by omega)).trans rfl, (h 1 (by omega)).trans rfl, (h 2 (by omega)).trans rfl, (h 3 (by omega)).trans rfl⟩

/-- What formOfOp answers. -/
def FormPost (op : Int) (w : World) (e : Ending) (w' : World) : Prop :=
  e = .returned (if 0 ≤ op ∧ op < 23 then .tuple #[.agg #[.int .i64 (fA op.toNat), .string (fH op.toNat), .string (fB op.toNat), .string (fE op.toNat)], .bool true] else .tuple #[.agg #[.int .i64 0, .string ⟨#[]⟩, .string ⟨#[]⟩, .string ⟨#[]⟩], .bool false]) ∧ Below w.heap.size w w'

set_option maxHeartbeats 2000000 in
set_option maxRecDepth 100000 in
theorem formOfOp_any (op : Int) (w : World) : Calls Tryz.prog 92 #[.int .i64 op] w (FormPost op w) := by
  go_enter Tryz.func92, Tryz.ntmps92
  go_upto_region 2 with (first | (refine build_as rfl 156 _ rfl fCells (by kernel_rfl) ?_) | (refine wpList_store_row rfl 156 (.tmp 4) (.tmp 28) rfl (w.heap.size + 1) fCells rfl rfl 156 _ (heap_two w _ _) (by kernel_rfl) (by kernel_rfl) (by kernel_rfl) ?_))
  have hF : (((w.alloc (.cells #[.int .i64 0, .string ⟨#[]⟩, .string ⟨#[]⟩, .string ⟨#[]⟩] 152)).alloc (.cells Tryz.zeroCells156 156)).setRow (w.heap.size + 1) fCells).heap[w.heap.size + 1]? = some (.cells fCells 156 (0, 0)) := setRow_heap _ _ _ _ _ _ (heap_two w _ _)
  have hR : (((w.alloc (.cells #[.int .i64 0, .string ⟨#[]⟩, .string ⟨#[]⟩, .string ⟨#[]⟩] 152)).alloc (.cells Tryz.zeroCells156 156)).setRow (w.heap.size + 1) fCells).heap[w.heap.size]? = some (.cells #[.int .i64 0, .string ⟨#[]⟩, .string ⟨#[]⟩, .string ⟨#[]⟩] 152 (0, 0)) := by
    rw [setRow_other _ _ _ _ (by omega), Below.heap_alloc _ _ _ (by simp), heap_alloc_new]
  have hB := below_setRow (below2 w (.cells #[.int .i64 0, .string ⟨#[]⟩, .string ⟨#[]⟩, .string ⟨#[]⟩] 152) (.cells Tryz.zeroCells156 156)) (g := w.heap.size + 1) (cs := fCells) (by omega)
  generalize (((w.alloc (.cells #[.int .i64 0, .string ⟨#[]⟩, .string ⟨#[]⟩, .string ⟨#[]⟩] 152)).alloc (.cells Tryz.zeroCells156 156)).setRow (w.heap.size + 1) fCells) = W at hF hR hB ⊢
  obtain ⟨q0, q1, q2, q3, g0, g1, g2, g3⟩ : W.cell? ⟨w.heap.size, 0, none⟩ = some (.int .i64 0) ∧ W.cell? ⟨w.heap.size, 1, none⟩ = some (.string ⟨#[]⟩) ∧ W.cell? ⟨w.heap.size, 2, none⟩ = some (.string ⟨#[]⟩) ∧ W.cell? ⟨w.heap.size, 3, none⟩ = some (.string ⟨#[]⟩) ∧ W.frozen? ⟨w.heap.size, 0, none⟩ = false ∧ W.frozen? ⟨w.heap.size, 1, none⟩ = false ∧ W.frozen? ⟨w.heap.size, 2, none⟩ = false ∧ W.frozen? ⟨w.heap.size, 3, none⟩ = false := by simp [World.cell?, World.frozen?, hR]
  clear hR
  by_cases h0 : 0 ≤ op
  · obtain ⟨k, rfl⟩ := Int.eq_ofNat_of_zero_le h0
    rcases Nat.lt_or_ge k 23 with hk | hk
    · obtain ⟨c0, c1, c2, c3⟩ := fCells_at k hk
      have hc : ∀ i v, fCells[i]? = some v → W.cell? ⟨w.heap.size + 1, i, none⟩ = some v := fun i v h => by simp [World.cell?, hF, h]
      have c0 := hc _ _ c0
      have c1 := hc _ _ c1
      have c2 := hc _ _ c2
      have c3 := hc _ _ c3
      have c0' : W.cell? ((⟨w.heap.size + 1, 0, none⟩ : Addr).add (k * 4)) = some (.int .i64 (fA k)) := by rw [show (⟨w.heap.size + 1, 0, none⟩ : Addr).add (k * 4) = ⟨w.heap.size + 1, k * 4, none⟩ by unfold Addr.add; split <;> simp_all]; exact c0
      have HB := Lib.hid hB
      clear hF hc hB
      go_wp2
      refine bodyPost_ret (v := .tuple #[.agg #[.int .i64 (fA k), .string (fH k), .string (fB k), .string (fE k)], .bool true]) (by simp [results, Tryz.results92, go_sem, q0, q1, q2, q3]) rfl ⟨?_, ?_⟩
      · rw [if_pos ⟨by omega, by omega⟩, Int.toNat_natCast]
      · have hB := HB.out
        exact (by (repeat (first | (with_reducible assumption) | (with_reducible exact Below.refl _ _) | (with_reducible refine Below.setCell ?_ (by first | omega | (simp; done) | (simp; omega)) _) | (with_reducible refine Below.alloc ?_ (by first | omega | (simp; done) | (simp; omega)) _) | (with_reducible refine below_drewN ?_ _) | (with_reducible refine Below.drew ?_))))
    · have HB := Lib.hid hB
      clear hF hB
      go_wp2
      refine bodyPost_ret (v := .tuple #[.agg #[.int .i64 0, .string ⟨#[]⟩, .string ⟨#[]⟩, .string ⟨#[]⟩], .bool false]) (by simp [results, Tryz.results92, go_sem, q0, q1, q2, q3]) rfl ⟨?_, ?_⟩
      · rw [if_neg (by omega)]
      · have hB := HB.out
        exact (by (repeat (first | (with_reducible assumption) | (with_reducible exact Below.refl _ _) | (with_reducible refine Below.setCell ?_ (by first | omega | (simp; done) | (simp; omega)) _) | (with_reducible refine Below.alloc ?_ (by first | omega | (simp; done) | (simp; omega)) _) | (with_reducible refine below_drewN ?_ _) | (with_reducible refine Below.drew ?_))))
  · have HB := Lib.hid hB
    clear hF hB
    go_wp2
    refine bodyPost_ret (v := .tuple #[.agg #[.int .i64 0, .string ⟨#[]⟩, .string ⟨#[]⟩, .string ⟨#[]⟩], .bool false]) (by simp [results, Tryz.results92, go_sem, q0, q1, q2, q3]) rfl ⟨?_, ?_⟩
    · rw [if_neg (by omega)]
    · have hB := HB.out
      exact (by (repeat (first | (with_reducible assumption) | (with_reducible exact Below.refl _ _) | (with_reducible refine Below.setCell ?_ (by first | omega | (simp; done) | (simp; omega)) _) | (with_reducible refine Below.alloc ?_ (by first | omega | (simp; done) | (simp; omega)) _) | (with_reducible refine below_drewN ?_ _) | (with_reducible refine Below.drew ?_))))
end Go.Proofs.YtipcacplphidhaaGreat.Sy
