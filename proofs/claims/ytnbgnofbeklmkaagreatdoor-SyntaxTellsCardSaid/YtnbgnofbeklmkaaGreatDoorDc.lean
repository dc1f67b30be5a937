/- Whether two statements are one, by the program: the walk of Same. Conditions: statements that are read in memory. -/
import Derived.Test.YtnbgnofbeklmkaaGreatDoorDb
import Derived.Test.YtnbgnofbeklmkaaGreatDoorCc
namespace Go.Proofs.YtnbgnofbeklmkaaGreatDoor
open Go.RowKit
set_option linter.unusedSimpArgs false
set_option linter.unusedVariables false

theorem eqX_st {n : Nat} (x y : St n) : eqX x y = ((x.kind == y.kind) && (x.tb.toList == y.tb.toList) && (x.key.toList == y.key.toList) && (x.ix.toList == y.ix.toList) && (x.jn.toList == y.jn.toList) && (x.lim == y.lim) &&
    eqX x.cols y.cols && eqX x.ord y.ord && eqX x.rows y.rows && eqX x.sets y.sets && eqX x.items y.items && eqX x.on y.on && eqX x.wh y.wh && eqX x.gr y.gr) := by
  rw [Bool.eq_iff_iff, eqX_iff]
  simp only [Bool.and_eq_true, beq_iff_eq, eqX_iff, ba_iff]
  obtain ⟨k0, k1, k2, k3, k4, k5, k6, k7, k8, k9, k10, k11, k12, k13⟩ := x
  obtain ⟨l0, l1, l2, l3, l4, l5, l6, l7, l8, l9, l10, l11, l12, l13⟩ := y
  simp
  grind
theorem two_next {w w1 : World} {b c : Nat} {o p : Obj} (hX : w.heap[b]? = some o) (hY : w.heap[c]? = some p) (hb : Below w.heap.size w w1) : w1.heap[b]? = some o ∧ w1.heap[c]? = some p := by
  have lt : ∀ (g : Nat) (q : Obj), w.heap[g]? = some q → g < w.heap.size := fun g q h => by
    rcases Nat.lt_or_ge g w.heap.size with h' | h'
    · exact h'
    · rw [Array.getElem?_eq_none h'] at h; cases h
  exact ⟨(hb.block b (lt b o hX)).trans hX, (hb.block c (lt c p hY)).trans hY⟩

set_option maxHeartbeats 4000000 in
set_option maxRecDepth 100000 in
theorem sSame_bad {m : Nat} (x y : St m) (h h' : Hs) (w : World) (hr : RdSt Any w x h) (hr' : RdSt Any w y h') (hb : chkSt x ≠ 0 ∨ chkSt y ≠ 0) :
    Calls Tryz.prog 21 #[x.val h, y.val h'] w fun e w' => e = .returned (.bool false) ∧ Below w.heap.size w w' := by
  have HX := Lib.hid fun (w' : World) (hb : Below w.heap.size w w') => sCheck_any x h w' (hr.below hb)
  have HY := Lib.hid fun (w' : World) (hb : Below w.heap.size w w') => sCheck_any y h' w' (hr'.below hb)
  clear hr hr'
  generalize chkSt x = cx at HX hb
  generalize chkSt y = cy at HY hb
  obtain ⟨kind, tb, cols, key, ix, rows, sets, items, jn, on, wh, gr, ord, lim⟩ := x
  obtain ⟨⟨aC, cC⟩, ⟨aR, cR⟩, ⟨aS, cS⟩, ⟨aI, cI⟩, ⟨aO, cO⟩, ⟨aW, cW⟩, ⟨aG, cG⟩, ⟨aD, cD⟩⟩ := h
  obtain ⟨kind', tb', cols', key', ix', rows', sets', items', jn', on', wh', gr', ord', lim'⟩ := y
  obtain ⟨⟨aC', cC'⟩, ⟨aR', cR'⟩, ⟨aS', cS'⟩, ⟨aI', cI'⟩, ⟨aO', cO'⟩, ⟨aW', cW'⟩, ⟨aG', cG'⟩, ⟨aD', cD'⟩⟩ := h'
  unfold St.val St.cs at HX HY ⊢
  dsimp only at HX HY ⊢
  by_cases hx : cx = 0
  · have hy : cy ≠ 0 := by
      rcases hb with h | h
      · exact absurd hx h
      · exact h
    have d1 : (cx != 0) = false := by simpa using hx
    have d2 : (cy != 0) = true := by simpa using hy
    clear hx hy hb
    go_enter Tryz.func21, Tryz.ntmps21
    go_wp2_with (go_at_call 15; first | (refine (HY.out _ hB).mono ?_; rintro e w2 ⟨rfl, hb2⟩) | (refine (HX.out _ (below2 _ _ _)).mono ?_; rintro e w1 ⟨rfl, hb⟩; obtain ⟨hX, hY, hB, hz⟩ := two14 hb; obtain ⟨x0, x1, x2, x3, x4, x5, x6, x7, x8, x9, x10, x11, x12, x13⟩ := cells14 hY))
    go_ret
    exact ⟨rfl, below_call hb2 hB hB.size⟩
  · have d1 : (cx != 0) = true := by simpa using hx
    clear hx hb
    go_enter Tryz.func21, Tryz.ntmps21
    go_wp2_with (go_at_call 15; (refine (HX.out _ (below2 _ _ _)).mono ?_; rintro e w1 ⟨rfl, hb⟩))
    go_ret
    exact ⟨rfl, below_of2 hb⟩
end Go.Proofs.YtnbgnofbeklmkaaGreatDoor
