/- How BEGIN's statement is checked: the walks of the iterator over its expressions, of which there are none, and of Check. Conditions: none. -/
import Derived.RangeFuncNested
import Derived.RangeFuncBound
import Derived.RangeFuncCalls
import Derived.RangeFuncLeaves
import Derived.RangeFuncBox
import Derived.Shelf.Abstract
import Derived.Shelf.RegionOpen
import Derived.WalkKit
import Derived.OwnWalkIn
import Derived.TacticsInMore
import Derived.LoopNIn
import Derived.LoopIn
import Derived.Maps.AppendAt
import Derived.Test.YtnbgnofbeklmkaaGreatDoorTp
import Derived.Test.YtnbgnofbeklmkaaGreatDoorTd
namespace Go.Proofs.YtnbgnofbeklmkaaGreatDoor
open Go.RowKit Go.Shelf
set_option linter.unusedSimpArgs false
set_option linter.unusedVariables false
attribute [local go_sem] Oper.semAt_some

theorem Tryz.infoL : (Tryz.prog.info? 25).map (fun i => (i.zero, i.size, i.bytes)) = some (some (.slice none 0 0), 1, 24) := by kernel_rfl
set_option maxRecDepth 100000 in
theorem clone_nil (w : World) : Calls Tryz.prog 91 #[.slice none 0 0] w fun e w' => e = .returned (.slice none 0 0) ∧ w = w' := by
  have he : ∀ w, (binOp .eql 23 (.slice none 0 0) (.slice none 0 0)).run Tryz.prog w = .ok (.bool true) w := fun _ => by kernel_rfl
  go_enter Tryz.func91, Tryz.ntmps91
  go_wp2
  go_ret
  exact ⟨rfl, rfl⟩

theorem four_form {w : World} {base : Nat} {e : TypeId} {v : Value} {xs : List Value} (h : w.ownsRow base e 1 v 4 xs) : ∃ g c, v = .slice (some ⟨g, 0, none⟩) 4 c := by
  rcases h.2 with ⟨_, h0⟩ | ⟨g, cap, cur, hv, _⟩
  · cases h0
  · exact ⟨g, cap, hv⟩
set_option maxHeartbeats 2000000 in
set_option maxRecDepth 100000 in
theorem iter_none (n n₀ g : Nat) (hn : 1 ≤ n) (w : World) (hg : g < w.heap.size) (h5 : w.cell? ⟨g, 5, none⟩ = some (.slice none 0 0)) (h6 : w.cell? ⟨g, 6, none⟩ = some (.slice none 0 0)) (h7 : w.cell? ⟨g, 7, none⟩ = some (.slice none 0 0)) (h9 : w.cell? ⟨g, 9, none⟩ = some (.slice none 0 0))
    (h10 : w.cell? ⟨g, 10, none⟩ = some (.slice none 0 0)) (h11 : w.cell? ⟨g, 11, none⟩ = some (.slice none 0 0)) :
    SeqStopsK Fence.wide n Tryz.prog 90 #[.pointer (some ⟨g, 0, none⟩)] (fun _ : Empty => #[undef]) (Below n₀) (fun xs => xs = []) (fun _ => False) 0 w := by
  intro l J Jx W hW hJ hJx hY h0
  replace h5 := (hW.cell (p := ⟨g, 5, none⟩) hg).trans h5
  replace h6 := (hW.cell (p := ⟨g, 6, none⟩) hg).trans h6
  replace h7 := (hW.cell (p := ⟨g, 7, none⟩) hg).trans h7
  replace h9 := (hW.cell (p := ⟨g, 9, none⟩) hg).trans h9
  replace h10 := (hW.cell (p := ⟨g, 10, none⟩) hg).trans h10
  replace h11 := (hW.cell (p := ⟨g, 11, none⟩) hg).trans h11
  have hgW := Nat.lt_of_lt_of_le hg hW.size
  obtain ⟨i0, hi, hz0, hz1, hz2⟩ := info_parts Tryz.infoL
  have hCl := fun w => callsIn_wide (n := n - 1).2 (clone_nil w)
  clear hY hJx
  refine callsIn_of_wp Tryz.func90 rfl trivial ?_ rfl
  simp only [Tryz.ntmps90, List.size_toArray, List.length_cons, List.length_nil, Nat.reduceAdd, Nat.reduceSub, Array.replicate_succ, Array.replicate_zero, List.push_toArray, List.append_toArray, List.nil_append, List.cons_append]
  gi_wp2_with (refine ⟨trivial, ?_⟩; gi_at_call 91; refine (hCl _).mono ?_; rintro e w1 ⟨rfl, rfl⟩)
  refine wpIn_loop_rounds 1 ?_
  rw [roundsIn_succ]
  gi_wp2_with (gi_at_builtin; refine wpListIn_append_own _ rfl _ _ 23 rfl W.heap.size 25 i0 (.slice none 0 0) 1 24 Tryz.underlying23 hi hz0 hz1 hz2 rfl (by decide) _ _ _ rfl (World.ownsRow_nil _ _ _ _) ⟨W.heap.size, 0, none⟩ 4 4 [.slice none 0 0, .slice none 0 0, .slice none 0 0, .slice none 0 0] rfl rfl (new_cells W 25 [.slice none 0 0, .slice none 0 0, .slice none 0 0, .slice none 0 0]) (by simp [Value.oneCell']) (by decide) (by decide) (by simp) ?_; intro v' w1 hown' hgrow _; obtain ⟨g1, c1, rfl⟩ := four_form hown')
  have hJ1 : J [] w1 := hJ _ _ _ _ (hJ _ _ _ none h0 (World.grownBy_alloc _ _ _) (fun r e => by cases e)) hgrow (fun r e => by cases e)
  have hc := hown'.cells (g := g1) rfl
  have d0 : w1.cell? ⟨g1, 0, none⟩ = some (.slice none 0 0) := hc 0 _ rfl
  have d1 : w1.cell? ⟨g1, 1, none⟩ = some (.slice none 0 0) := hc 1 _ rfl
  have d2 : w1.cell? ⟨g1, 2, none⟩ = some (.slice none 0 0) := hc 2 _ rfl
  have d3 : w1.cell? ⟨g1, 3, none⟩ = some (.slice none 0 0) := hc 3 _ rfl
  clear hc hown' hgrow hJ h0
  refine wpIn_loop_rounds 5 ?_
  iterate 4
    rw [roundsIn_succ]
    gi_wp2
    refine wpIn_loop_rounds 1 ?_
    rw [roundsIn_succ]
    gi_wp2
  rw [roundsIn_succ]
  gi_wp2
  go_end0
  exact ⟨⟨_, rfl⟩, .inl ⟨[], rfl, hJ1⟩⟩

/-- BEGIN's statement: its kind, and nothing more. -/
@[reducible] def S8 : Value := .agg #[.int .i64 8, .string ⟨#[]⟩, .slice none 0 0, .string ⟨#[]⟩, .string ⟨#[]⟩, .slice none 0 0, .slice none 0 0, .slice none 0 0, .string ⟨#[]⟩, .slice none 0 0, .slice none 0 0, .slice none 0 0, .slice none 0 0, .int .i64 0]
set_option maxRecDepth 100000 in
theorem formed8 (w : World) : Calls Tryz.prog 39 #[S8] w fun e w' => e = .returned (.bool true) ∧ Below w.heap.size w w' := by
  have h := sisFormed_any (n := 0) ⟨8, ⟨#[]⟩, [], ⟨#[]⟩, ⟨#[]⟩, [], [], [], ⟨#[]⟩, [], [], [], [], 0⟩ ⟨⟨none, 0⟩, ⟨none, 0⟩, ⟨none, 0⟩, ⟨none, 0⟩, ⟨none, 0⟩, ⟨none, 0⟩, ⟨none, 0⟩, ⟨none, 0⟩⟩ 8 w rfl (by decide) (by decide) ?_
  · have e : formedB (⟨8, ⟨#[]⟩, [], ⟨#[]⟩, ⟨#[]⟩, [], [], [], ⟨#[]⟩, [], [], [], [], 0⟩ : St 0) = true := by
      simp [formedB, namedB, countedB, hasNm, spB, gL, gH, gTab, onN]
    rw [e] at h
    exact h
  · exact ⟨RdK_nil _ _ _, RdK_nil _ _ _, RdK_nil _ _ _, RdK_nil _ _ _, RdK_nil _ _ _, RdK_nil _ _ _, RdK_nil _ _ _, RdK_nil _ _ _⟩
set_option maxRecDepth 100000 in
theorem exprs8 (w : World) : Calls Tryz.prog 40 #[S8] w fun e w' => e = .returned (.func (.func 90) #[] #[.pointer (some ⟨w.heap.size, 0, none⟩)]) ∧ w' = w.alloc (.cells #[.int .i64 8, .string ⟨#[]⟩, .slice none 0 0, .string ⟨#[]⟩, .string ⟨#[]⟩, .slice none 0 0, .slice none 0 0, .slice none 0 0, .string ⟨#[]⟩, .slice none 0 0, .slice none 0 0, .slice none 0 0, .slice none 0 0, .int .i64 0] 28) := by
  have hmf : ∀ (fn : Fn) (first cap : Array Value) (w : World), (Instr.makeFunc fn first cap).run Tryz.prog w = .ok (.func fn first cap) w := fun _ _ _ _ => rfl
  go_enter Tryz.func40, Tryz.ntmps40
  go_wp2
  go_ret
  exact ⟨rfl, rfl⟩

theorem box14 {w w1 : World} {o p : Obj} (hb : Below ((w.alloc o).alloc p).heap.size ((w.alloc o).alloc p) w1) : w1.heap[w.heap.size]? = some o ∧ w1.heap[w.heap.size + 1]? = some p ∧ Below w.heap.size w w1 ∧ w.heap.size + 2 ≤ w1.heap.size := by
  have e : ((w.alloc o).alloc p).heap.size = w.heap.size + 2 := by simp
  refine ⟨(hb.block _ (by rw [e]; omega)).trans ?_, (hb.block _ (by rw [e]; omega)).trans (heap_two w o p), below_of2 hb, by have := hb.size; omega⟩
  rw [Below.heap_alloc _ _ _ (by simp), heap_alloc_new]
set_option maxHeartbeats 4000000 in
set_option maxRecDepth 100000 in
theorem check8 (w : World) : Calls Tryz.prog 15 #[S8] w fun e w' => e = .returned (.int .i64 0) ∧ Below w.heap.size w w' := by
  refine (callsIn_wide (n := 3)).1 ?_
  have hF := fun w => callsIn_wide (n := 3 - 1).2 (formed8 w)
  have hE := fun w => callsIn_wide (n := 3 - 1).2 (exprs8 w)
  refine callsIn_of_wp_marks Tryz.func15 rfl trivial ?_ rfl
  simp only [Tryz.ntmps15, List.size_toArray, List.length_cons, List.length_nil, Nat.reduceAdd, Nat.reduceSub, Array.replicate_succ, Array.replicate_zero, List.push_toArray, List.append_toArray, List.nil_append, List.cons_append]
  gi_wp2_with (first | (refine ⟨trivial, ?_⟩; gi_at_call 39; refine (hF _).mono ?_; rintro e w1 ⟨rfl, hb⟩; obtain ⟨hX, hR, hB, hz⟩ := box14 hb; obtain ⟨x0, x1, x2, x3, x4, x5, x6, x7, x8, x9, x10, x11, x12, x13⟩ := cells14 hX; clear hb) | (refine ⟨trivial, ?_⟩; gi_at_call 40; refine (hE _).mono ?_; rintro e w2 ⟨rfl, rfl⟩))
  have hN := heap_alloc_new w1 (.cells #[.int .i64 8, .string ⟨#[]⟩, .slice none 0 0, .string ⟨#[]⟩, .string ⟨#[]⟩, .slice none 0 0, .slice none 0 0, .slice none 0 0, .string ⟨#[]⟩, .slice none 0 0, .slice none 0 0, .slice none 0 0, .slice none 0 0, .int .i64 0] 28)
  have hX2 := (Below.heap_alloc w1 (.cells #[.int .i64 8, .string ⟨#[]⟩, .slice none 0 0, .string ⟨#[]⟩, .string ⟨#[]⟩, .slice none 0 0, .slice none 0 0, .slice none 0 0, .string ⟨#[]⟩, .slice none 0 0, .slice none 0 0, .slice none 0 0, .slice none 0 0, .int .i64 0] 28) w.heap.size (by omega)).trans hX
  have hR2 := (Below.heap_alloc w1 (.cells #[.int .i64 8, .string ⟨#[]⟩, .slice none 0 0, .string ⟨#[]⟩, .string ⟨#[]⟩, .slice none 0 0, .slice none 0 0, .slice none 0 0, .string ⟨#[]⟩, .slice none 0 0, .slice none 0 0, .slice none 0 0, .slice none 0 0, .int .i64 0] 28) (w.heap.size + 1) (by omega)).trans hR
  have hB2 := hB.alloc hB.size (.cells #[.int .i64 8, .string ⟨#[]⟩, .slice none 0 0, .string ⟨#[]⟩, .string ⟨#[]⟩, .slice none 0 0, .slice none 0 0, .slice none 0 0, .string ⟨#[]⟩, .slice none 0 0, .slice none 0 0, .slice none 0 0, .slice none 0 0, .int .i64 0] 28)
  have hz2 : w1.heap.size < (w1.alloc (.cells #[.int .i64 8, .string ⟨#[]⟩, .slice none 0 0, .string ⟨#[]⟩, .string ⟨#[]⟩, .slice none 0 0, .slice none 0 0, .slice none 0 0, .string ⟨#[]⟩, .slice none 0 0, .slice none 0 0, .slice none 0 0, .slice none 0 0, .int .i64 0] 28)).heap.size := by simp
  generalize (w1.alloc (.cells #[.int .i64 8, .string ⟨#[]⟩, .slice none 0 0, .string ⟨#[]⟩, .string ⟨#[]⟩, .slice none 0 0, .slice none 0 0, .slice none 0 0, .string ⟨#[]⟩, .slice none 0 0, .slice none 0 0, .slice none 0 0, .slice none 0 0, .int .i64 0] 28)) = W at *
  clear x0 x1 x2 x3 x4 x5 x6 x7 x8 x9 x10 x11 x12 x13 hF hE
  obtain ⟨_, _, _, _, _, y5, y6, y7, _, y9, y10, y11, _, _⟩ := cells14 hN
  obtain ⟨_, _, _, _, _, _, _, _, _, _, _, x11, _, _⟩ := cells14 hX2
  have r0 : W.cell? ⟨w.heap.size + 1, 0, none⟩ = some (.int .i64 0) := by simp [World.cell?, hR2]
  have f0 : W.frozen? ⟨w.heap.size + 1, 0, none⟩ = false := by simp [World.frozen?, hR2]
  refine wpIn_rangeFunc_ownF rfl (by decide) (gf := 90) (lb := #[.pointer (some ⟨w1.heap.size, 0, none⟩)]) rfl trivial (enters_of Tryz.func90 (by kernel_rfl) rfl)
    (iter_none (3 - 1) w.heap.size w1.heap.size (by decide) W hz2 y5 y6 y7 y9 y10 y11) belowK_t (belowK_b hB2.size) (Below.refl _ _) (fun _ => rfl)
    (fun _ V => (V.cell? ⟨w.heap.size, 11, none⟩ = some (.slice none 0 0) ∧ V.cell? ⟨w.heap.size + 1, 0, none⟩ = some (.int .i64 0) ∧ V.frozen? ⟨w.heap.size + 1, 0, none⟩ = false) ∧ Below w.heap.size w V)
    (fun _ _ _ => False)
    (OwnFrom.and (Own.from (fun s A B row hs hg hr => ⟨cell_kept hs.1 hg hr, cell_kept hs.2.1 hg hr, (frozen_kept hs.2.1 hg hr).trans hs.2.2⟩) _) (ownFrom_below (Nat.le_refl _) hB2.size))
    (fun _ _ _ _ _ hs _ _ => hs)
    ⟨⟨x11, r0, f0⟩, hB2⟩
    (fun x => x.elim) ?assign ?body ?done ?stop
  case assign => exact fun _ x => x.elim
  case body => exact fun _ _ x => x.elim
  case stop =>
    rintro D c pre V hD _ h _
    exact h.elim
  case done =>
    rintro D ys V hD rfl ⟨⟨z11, z0, zf⟩, hBV⟩ hK
    gi_wp2
    have hK' := (KeepsOthers.setCell V ⟨w.heap.size + 1, 0, none⟩ (.int .i64 0)).same D _ hK rfl
    refine ⟨by simp, .inl ⟨_, _, rfl, run_takeDeferred hK', ?_⟩⟩
    have hc5 := cell_kept (World.cell?_setCell_same' V ⟨w.heap.size + 1, 0, none⟩ (.int .i64 0) (by rw [z0]; rfl)) (grownBy_putObj' _ D (.deferred none)) (fun r e => by cases e; exact ⟨_, hK', rfl⟩)
    refine ⟨.int .i64 0, ?_, rfl, (hBV.setCell (p := ⟨w.heap.size + 1, 0, none⟩) (by simp) _).trans (belowK_b (w := w) (Nat.le_refl _) _ D _ _ (by have := hB2.size; omega) hK' rfl rfl)⟩
    simp [results, Tryz.f15, go_sem, hc5]
end Go.Proofs.YtnbgnofbeklmkaaGreatDoor
