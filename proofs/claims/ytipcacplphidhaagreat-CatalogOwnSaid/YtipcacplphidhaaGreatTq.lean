/- What the reference's bounds, counts, names and lists answer of any statement: the walks. Conditions: statements that are read in memory. -/
import Derived.Test.YtipcacplphidhaaGreatTp0
import Derived.Test.YtipcacplphidhaaGreatTd
namespace Go.Proofs.YtipcacplphidhaaGreat.Sy
open Go.RowKit
set_option linter.unusedSimpArgs false
set_option linter.unusedVariables false

/-- The bounds of a kind's lists. -/
def bdL (k : Int) : List Int :=
  if k = 1 then [1, 8, 0, 0, 0, 0, 0, 0, 0, 0, 0, 0, 0, 0, 0, 0]
  else if k = 4 then [0, 0, 1, 16, 0, 0, 0, 0, 0, 0, 0, 0, 0, 0, 0, 0]
  else if k = 5 then [0, 0, 0, 0, 1, 8, 0, 0, 0, 0, 0, 1, 0, 0, 0, 0]
  else if k = 6 then [0, 0, 0, 0, 0, 0, 0, 0, 0, 0, 0, 1, 0, 0, 0, 0]
  else if k = 7 then [0, 0, 0, 0, 0, 0, 1, 16, 0, 1, 0, 1, 0, 1, 0, 8]
  else [0, 0, 0, 0, 0, 0, 0, 0, 0, 0, 0, 0, 0, 0, 0, 0]
/-- Numbers lie at A. -/
def RdI (w : World) (A : Addr) (l : List Int) : Prop := ∀ j v, l[j]? = some v → w.cell? (A.add j) = some (.int .i64 v)

theorem RdI_new (w : World) (l : List Int) (cs : Array Value) (t : TypeId) (h : cs = (l.map fun v => Value.int .i64 v).toArray) : RdI (w.alloc (.cells cs t)) ⟨w.heap.size, 0, none⟩ l := fun j v hj => by
  subst h
  exact new_cells w t _ j _ (by simp [hj])
theorem RdI.below {w w' : World} {A : Addr} {l : List Int} (h : RdI w A l) (hb : Below w.heap.size w w') : RdI w' A l := fun j v hj => cell_keep (h j v hj) hb
theorem bd1 : bdL 1 = [1, 8, 0, 0, 0, 0, 0, 0, 0, 0, 0, 0, 0, 0, 0, 0] := by decide
theorem bd4 : bdL 4 = [0, 0, 1, 16, 0, 0, 0, 0, 0, 0, 0, 0, 0, 0, 0, 0] := by decide
theorem bd5 : bdL 5 = [0, 0, 0, 0, 1, 8, 0, 0, 0, 0, 0, 1, 0, 0, 0, 0] := by decide
theorem bd6 : bdL 6 = [0, 0, 0, 0, 0, 0, 0, 0, 0, 0, 0, 1, 0, 0, 0, 0] := by decide
theorem bd7 : bdL 7 = [0, 0, 0, 0, 0, 0, 1, 16, 0, 1, 0, 1, 0, 1, 0, 8] := by decide
theorem bd0 {k : Int} (h1 : k ≠ 1) (h4 : k ≠ 4) (h5 : k ≠ 5) (h6 : k ≠ 6) (h7 : k ≠ 7) : bdL k = [0, 0, 0, 0, 0, 0, 0, 0, 0, 0, 0, 0, 0, 0, 0, 0] := by
  unfold bdL; rw [if_neg h1, if_neg h4, if_neg h5, if_neg h6, if_neg h7]

set_option maxRecDepth 100000 in
set_option maxHeartbeats 1000000 in
theorem rbounds_any (k : Int) (w : World) : Calls Tryz.prog 57 #[.int .i64 k] w fun e w' => ∃ A c, e = .returned (.slice (some A) 16 c) ∧ RdI w' A (bdL k) ∧ 16 ≤ c ∧ c ≤ 9223372036854775807 ∧ Below w.heap.size w w' := by
  rcases (show k = 1 ∨ k = 4 ∨ k = 5 ∨ k = 6 ∨ k = 7 ∨ (k ≠ 1 ∧ k ≠ 4 ∧ k ≠ 5 ∧ k ≠ 6 ∧ k ≠ 7) by omega) with rfl | rfl | rfl | rfl | rfl | ⟨h1, h4, h5, h6, h7⟩
  · rw [bd1]
    go_enter Tryz.func57, Tryz.ntmps57
    go_wp2
    go_ret
    exact ⟨_, _, rfl, RdI_new w _ _ _ rfl, by omega, by omega, below1 _ _⟩
  · rw [bd4]
    go_enter Tryz.func57, Tryz.ntmps57
    go_wp2
    go_ret
    exact ⟨_, _, rfl, RdI_new w _ _ _ rfl, by omega, by omega, below1 _ _⟩
  · rw [bd5]
    go_enter Tryz.func57, Tryz.ntmps57
    go_wp2
    go_ret
    exact ⟨_, _, rfl, RdI_new w _ _ _ rfl, by omega, by omega, below1 _ _⟩
  · rw [bd6]
    go_enter Tryz.func57, Tryz.ntmps57
    go_wp2
    go_ret
    exact ⟨_, _, rfl, RdI_new w _ _ _ rfl, by omega, by omega, below1 _ _⟩
  · rw [bd7]
    go_enter Tryz.func57, Tryz.ntmps57
    go_wp2
    go_ret
    exact ⟨_, _, rfl, RdI_new w _ _ _ rfl, by omega, by omega, below1 _ _⟩
  · rw [bd0 h1 h4 h5 h6 h7]
    have n1 : (k == 1) = false := by simp [h1]
    have n4 : (k == 4) = false := by simp [h4]
    have n5 : (k == 5) = false := by simp [h5]
    have n6 : (k == 6) = false := by simp [h6]
    have n7 : (k == 7) = false := by simp [h7]
    clear h1 h4 h5 h6 h7
    have hmk : ∀ w : World, (Instr.makeSlice 116 (.int .i64 16) (.int .i64 16)).run Tryz.prog w = .ok (.slice (some ⟨w.heap.size, 0, none⟩) 16 16) (w.alloc (.cells #[.int .i64 0, .int .i64 0, .int .i64 0, .int .i64 0, .int .i64 0, .int .i64 0, .int .i64 0, .int .i64 0, .int .i64 0, .int .i64 0, .int .i64 0, .int .i64 0, .int .i64 0, .int .i64 0, .int .i64 0, .int .i64 0] 3)) := fun w => by kernel_rfl
    go_enter Tryz.func57, Tryz.ntmps57
    go_wp2
    go_ret
    exact ⟨_, _, rfl, RdI_new w _ _ _ rfl, by omega, by omega, below1 _ _⟩

/-- How long its lists are. -/
def lensL {n : Nat} (x : St n) : List Int := [x.cols.length, x.rows.length, x.sets.length, x.items.length, x.on.length, x.wh.length, x.gr.length, x.ord.length]
def cntAt {n : Nat} (x : St n) (j : Nat) : Bool := spB ((bdL x.kind).getD (2 * j) 0) ((bdL x.kind).getD (2 * j + 1) 0) ((lensL x).getD j 0)
def cntB {n : Nat} (x : St n) : Bool := (List.range 8).all (cntAt x)
theorem cntB_no {n : Nat} {x : St n} {j : Nat} (hj : j < 8) (h : cntAt x j = false) : cntB x = false := by
  rw [Bool.eq_false_iff]
  intro h'
  have := List.all_eq_true.1 h' j (by simp [hj])
  rw [h] at this; cases this
theorem cntB_yes {n : Nat} {x : St n} (h : ∀ j, j < 8 → cntAt x j = true) : cntB x = true := List.all_eq_true.2 fun j hj => h j (by simpa using hj)
theorem bd_len (k : Int) : (bdL k).length = 16 := by
  unfold bdL
  repeat (split; · rfl)
  rfl
theorem cells8 {w1 : World} {b : Nat} {t : TypeId} {l : List Int} (h : w1.heap[b]? = some (.cells (l.map fun v => Value.int .i64 v).toArray t (0, 0))) : RdI w1 ⟨b, 0, none⟩ l := fun j v hj => by
  rw [add0]
  simp [World.cell?, h, hj]

set_option maxRecDepth 100000 in
set_option maxHeartbeats 4000000 in
theorem rcounts_any {n : Nat} (x : St n) (h : Hs) (w : World) : Calls Tryz.prog 42 #[x.val h] w fun e w' => e = .returned (.bool (cntB x)) ∧ Below w.heap.size w w' := by
  have HN := Lib.hid fun (j : Nat) (hj : j < 8) (h : cntAt x j = false) => cntB_no hj h
  have HY := Lib.hid fun (h : ∀ j, j < 8 → cntAt x j = true) => cntB_yes h
  have HA : Hid (∀ j, cntAt x j = spB ((bdL x.kind).getD (2 * j) 0) ((bdL x.kind).getD (2 * j + 1) 0) ((lensL x).getD j 0)) := Lib.hid fun _ => rfl
  have HL : Hid (lensL x = [(x.cols.length : Int), (x.rows.length : Int), (x.sets.length : Int), (x.items.length : Int), (x.on.length : Int), (x.wh.length : Int), (x.gr.length : Int), (x.ord.length : Int)]) := Lib.hid rfl
  have HLn : Hid ((lensL x).length = 8) := Lib.hid rfl
  have HBd := Lib.hid fun w => rbounds_any x.kind w
  have HBl := Lib.hid (bd_len x.kind)
  generalize lensL x = L at HA HL HLn
  generalize cntB x = B at HN HY ⊢
  generalize cntAt x = F at HN HY HA
  obtain ⟨kind, tb, cols, key, ix, rows, sets, items, jn, on, wh, gr, ord, lim⟩ := x
  obtain ⟨⟨aC, cC⟩, ⟨aR, cR⟩, ⟨aS, cS⟩, ⟨aI, cI⟩, ⟨aO, cO⟩, ⟨aW, cW⟩, ⟨aG, cG⟩, ⟨aD, cD⟩⟩ := h
  unfold St.val St.cs
  dsimp only at HA HL HBd HBl ⊢
  generalize bdL kind = D at HA HBd HBl
  go_enter Tryz.func42, Tryz.ntmps42
  go_upto_region 2 with (go_at_call 57; refine (HBd.out _).mono ?_; rintro e w1 ⟨A, c, rfl, hI, hc1, hc2, hb⟩; have hh := heap1 hb; have HB := Lib.hid (below_of1 hb); have hXl := heap_lt hh; obtain ⟨x0, x1, x2, x3, x4, x5, x6, x7, x8, x9, x10, x11, x12, x13⟩ := cells14 hh; have HI := Lib.hid hI; clear hI hb hh)
  go_upto_region 3 with (fail)
  have hL : RdI (w1.alloc (.cells #[.int .i64 cols.length, .int .i64 rows.length, .int .i64 sets.length, .int .i64 items.length, .int .i64 on.length, .int .i64 wh.length, .int .i64 gr.length, .int .i64 ord.length] 3)) ⟨w1.heap.size, 0, none⟩ L := RdI_new w1 L _ _ (by rw [HL.out]; rfl)
  have hI := HI.out.below (below1 w1 (.cells #[.int .i64 cols.length, .int .i64 rows.length, .int .i64 sets.length, .int .i64 items.length, .int .i64 on.length, .int .i64 wh.length, .int .i64 gr.length, .int .i64 ord.length] 3))
  have hB := HB.out.alloc (by omega) (.cells #[.int .i64 cols.length, .int .i64 rows.length, .int .i64 sets.length, .int .i64 items.length, .int .i64 on.length, .int .i64 wh.length, .int .i64 gr.length, .int .i64 ord.length] 3)
  have hz : w1.heap.size < (w1.alloc (.cells #[.int .i64 cols.length, .int .i64 rows.length, .int .i64 sets.length, .int .i64 items.length, .int .i64 on.length, .int .i64 wh.length, .int .i64 gr.length, .int .i64 ord.length] 3)).heap.size := by simp
  clear HI HB x0 x1 x2 x3 x4 x5 x6 x7 x8 x9 x10 x11 x12 x13 HL
  generalize w1.alloc (.cells #[.int .i64 cols.length, .int .i64 rows.length, .int .i64 sets.length, .int .i64 items.length, .int .i64 on.length, .int .i64 wh.length, .int .i64 gr.length, .int .i64 ord.length] 3) = W at hL hI hB hz ⊢
  generalize w1.heap.size = g at hL hz hXl ⊢
  have HL := Lib.hid hL
  have HI := Lib.hid hI
  have HB := Lib.hid hB
  clear hL hI hB
  go_wp2_with fail
  go_loopw [5] (fun i wr => ∃ j : Nat, j ≤ 8 ∧ i = .int .i64 j ∧ (∀ k, k < j → F k = true) ∧ Below W.heap.size W wr) (fun i _ => 8 - (intOf i).toNat)
  case atStart => exact ⟨0, by omega, rfl, fun k hk => by omega, Below.refl _ _⟩
  case round =>
    obtain ⟨j, hj, rfl, hall, hb⟩ := hrel
    have HAll := Lib.hid hall
    have HB2 := Lib.hid hb
    clear hall hb
    by_cases hlt : j < 8
    · have c0 : wr.cell? ⟨g, j, none⟩ = some (.int .i64 (L.getD j 0)) := by
        have := (HL.out.below HB2.out) j (L.getD j 0) (by rw [List.getD_eq_getElem?_getD]; have := HLn.out; rw [List.getElem?_eq_getElem (by omega)]; rfl)
        rwa [add0] at this
      have c1 : wr.cell? (A.add (2 * j)) = some (.int .i64 (D.getD (2 * j) 0)) := (HI.out.below HB2.out) (2 * j) _ (by rw [List.getD_eq_getElem?_getD]; have := HBl.out; rw [List.getElem?_eq_getElem (by omega)]; rfl)
      have c2 : wr.cell? (A.add (2 * j + 1)) = some (.int .i64 (D.getD (2 * j + 1) 0)) := (HI.out.below HB2.out) (2 * j + 1) _ (by rw [List.getD_eq_getElem?_getD]; have := HBl.out; rw [List.getElem?_eq_getElem (by omega)]; rfl)
      have c3 : wr.cell? ⟨A.block, A.off + (2 * j + 1), none⟩ = some (.int .i64 (D.getD (2 * j + 1) 0)) := by rw [← c2, add_ne (by omega)]
      have HF := Lib.hid (HA.out j)
      generalize L.getD j 0 = hv at c0 HF
      generalize D.getD (2 * j) 0 = lo at c1 HF
      generalize D.getD (2 * j + 1) 0 = hi at c2 c3 HF
      have e1 : IntKind.i64.wrap (2 * (j : Int)) = 2 * (j : Int) := IntWalk.i64_in _ (by omega)
      have e2 : IntKind.i64.wrap (2 * (j : Int) + 1) = 2 * (j : Int) + 1 := IntWalk.i64_in _ (by omega)
      have e3 : (2 * (j : Int)).toNat = 2 * j := by omega
      have e4 : (2 * (j : Int) + 1).toNat = 2 * j + 1 := by omega
      have p1 : (0 : Int) ≤ 2 * (j : Int) := by omega
      have p2 : (2 * (j : Int)) < 16 := by omega
      have p3 : (0 : Int) ≤ 2 * (j : Int) + 1 := by omega
      have p4 : (2 * (j : Int) + 1) < 16 := by omega
      by_cases h1 : hv < lo
      · have d1 : decide (hv < lo) = true := by simp [h1]
        have HN := Lib.hid (HN.out j hlt (by rw [HF.out]; unfold spB; simp; omega))
        clear h1
        go_wp2_with fail
        go_quiet (fail)
        go_wp2
        go_ret
        exact ⟨ret_bool HN.out.symm, below_drewN (HB.out.trans (HB2.out.mono (by omega))) _⟩
      · have d1 : decide (hv < lo) = false := by simp; omega
        by_cases h2 : hi < hv
        · have d2 : decide (hi < hv) = true := by simp [h2]
          have HN := Lib.hid (HN.out j hlt (by rw [HF.out]; unfold spB; simp; omega))
          clear h1 h2
          go_wp2_with fail
          go_quiet (fail)
          go_wp2
          go_ret
          exact ⟨ret_bool HN.out.symm, below_drewN (HB.out.trans (HB2.out.mono (by omega))) _⟩
        · have d2 : decide (hi < hv) = false := by simp; omega
          have HN : Hid (∀ k, k < j + 1 → F k = true) := Lib.hid fun k hk => by
            rcases Nat.lt_or_ge k j with h' | h'
            · exact HAll.out k h'
            · obtain rfl : k = j := by omega
              rw [HF.out]; unfold spB; simp; omega
          clear h1 h2
          go_wp2_with fail
          go_quiet (fail)
          go_wp2
          go_roundw
          case rel => exact ⟨j + 1, by omega, by go_num, HN.out, below_drewN HB2.out _⟩
          case measure => simp [intOf]; omega
    · have HN := Lib.hid (HY.out fun k hk => HAll.out k (by omega))
      go_wp2
      go_ret
      exact ⟨ret_bool HN.out.symm, HB.out.trans (HB2.out.mono (by omega))⟩
end Go.Proofs.YtipcacplphidhaaGreat.Sy
