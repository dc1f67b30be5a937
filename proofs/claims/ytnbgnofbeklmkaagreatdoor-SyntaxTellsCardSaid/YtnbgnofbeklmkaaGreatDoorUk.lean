/- The page's example: the walk of alive. Conditions: the tables that strconv and strings read, as they are laid. -/
import Derived.Test.YtnbgnofbeklmkaaGreatDoorUi
import Derived.Test.YtnbgnofbeklmkaaGreatDoorUj
namespace Go.Proofs.YtnbgnofbeklmkaaGreatDoor
open Go.RowKit
set_option linter.unusedSimpArgs false
set_option linter.unusedVariables false

theorem wnum_any (n : Int) (w : World) : Calls Tryz.prog 14 #[.int .i64 n] w fun e w' => e = .returned (.int .i64 n) ∧ w = w' := by
  go_enter Tryz.func14, Tryz.ntmps14
  go_wp2
  go_ret
  exact ⟨rfl, rfl⟩
/-- a + 1. -/
def xA : Ar 1 := (⟨1, vl0, ⟨#[]⟩, ⟨#[97]⟩, []⟩ : ExN (Ar 0))
def x1 : Ar 1 := (⟨0, ⟨1, 1, ⟨#[]⟩, by decide⟩, ⟨#[]⟩, ⟨#[]⟩, []⟩ : ExN (Ar 0))
def xP : ExN (Ar 1) := ⟨4, vl0, ⟨#[]⟩, ⟨#[]⟩, [xA, x1]⟩
theorem emp_nil : emp ⟨#[]⟩ = true := by unfold emp; rw [ByteArray.toList_eq]; rfl
theorem nameA : nameB ⟨#[97]⟩ = true := by
  have h : kwB (lowS ⟨#[97]⟩) = false := by unfold kwB; rw [ByteArray.toList_eq]; decide
  unfold nameB
  simp [h, digB, nmB]
theorem eqV0 : eqV vl0 vl0 = true := by simp [eqV, vl0]
theorem partA : partB (xA : ExN (Ar 0)) = true := by
  show partB (⟨1, vl0, ⟨#[]⟩, ⟨#[97]⟩, []⟩ : ExN (Ar 0)) = true
  simp [partB, argsI, eqV0, emp_nil, nameA]
theorem part1 : partB (x1 : ExN (Ar 0)) = true := by
  show partB (⟨0, ⟨1, 1, ⟨#[]⟩, by decide⟩, ⟨#[]⟩, ⟨#[]⟩, []⟩ : ExN (Ar 0)) = true
  have h : litB 1 1 ⟨#[]⟩ = true := by simp [litB, mayB]
  simp [partB, argsI, emp_nil, h]
theorem partP : partB xP = true := by
  simp [partB, argsI, xP, eqV0, emp_nil]
theorem chkP : chkX xP = 0 := by
  have hA : ∀ c, c < 64 → wk 1 2 c xA = (c + 1, 0) := fun c hc => by
    show wkX 2 c (xA : ExN (Ar 0)) = _
    rw [wkX_on (by decide) (by omega) partA]; rfl
  have h1 : ∀ c, c < 64 → wk 1 2 c x1 = (c + 1, 0) := fun c hc => by
    show wkX 2 c (x1 : ExN (Ar 0)) = _
    rw [wkX_on (by decide) (by omega) part1]; rfl
  unfold chkX
  rw [wkX_on (by decide) (by decide) partP]
  show (wkAll (wk 1 2) 1 [xA, x1]).2 = 0
  simp [wkAll, hA, h1]
theorem prP : (⟨(prX xP).toArray⟩ : ByteArray) = ⟨#[40, 97, 32, 43, 32, 49, 41]⟩ := by
  have hA : prA 1 xA = [97] := by
    show prL (prA 0) (⟨1, vl0, ⟨#[]⟩, ⟨#[97]⟩, []⟩ : ExN (Ar 0)) = _
    simp [prL, colL, emp_nil]
  have h1 : prA 1 x1 = [49] := by
    show prL (prA 0) (⟨0, ⟨1, 1, ⟨#[]⟩, by decide⟩, ⟨#[]⟩, ⟨#[]⟩, []⟩ : ExN (Ar 0)) = _
    simp [prL, litL]
    decide
  have h : prX xP = [40, 97, 32, 43, 32, 49, 41] := by
    unfold prX prL xP
    simp [hA, h1, joinL, fH, fB, fE, fTab]
  rw [h]

theorem cells14_new (w : World) : RdE (w.alloc (.cells #[.int .i64 1, .int .i64 0, .int .i64 0, .string ⟨#[]⟩, .string ⟨#[]⟩, .string ⟨#[97]⟩, .slice none 0 0, .int .i64 0, .int .i64 1, .int .i64 1, .string ⟨#[]⟩, .string ⟨#[]⟩, .string ⟨#[]⟩, .slice none 0 0] 51)) 1 (some ⟨w.heap.size, 0, none⟩) 2 [xA, x1] := by
  have hc := new_cells w 51 [.int .i64 1, .int .i64 0, .int .i64 0, .string ⟨#[]⟩, .string ⟨#[]⟩, .string ⟨#[97]⟩, .slice none 0 0, .int .i64 0, .int .i64 1, .int .i64 1, .string ⟨#[]⟩, .string ⟨#[]⟩, .string ⟨#[]⟩, .slice none 0 0]
  refine ⟨⟨(fun e => by cases e), by decide, by decide⟩, by decide, fun ad e j y hy => ?_⟩
  injection e with e; subst e
  refine ⟨trivial, none, 0, fun i v hv => ?_, ?_⟩
  · match j, hy with
    | 0, hy =>
      injection hy with hy; subst hy
      refine hc (0 * 7 + i) v ?_
      rw [Nat.zero_mul, Nat.zero_add]
      have hv' : ([.int .i64 1, .int .i64 0, .int .i64 0, .string ⟨#[]⟩, .string ⟨#[]⟩, .string ⟨#[97]⟩, .slice none 0 0] : List Value)[i]? = some v := hv
      have hi : i < 7 := (List.getElem?_eq_some_iff.1 hv').1
      exact (List.getElem?_append_left (l₂ := ([.int .i64 0, .int .i64 1, .int .i64 1, .string ⟨#[]⟩, .string ⟨#[]⟩, .string ⟨#[]⟩, .slice none 0 0] : List Value)) hi).trans hv'
    | 1, hy =>
      injection hy with hy; subst hy
      refine hc (1 * 7 + i) v ?_
      rw [Nat.one_mul]
      have hv' : ([.int .i64 0, .int .i64 1, .int .i64 1, .string ⟨#[]⟩, .string ⟨#[]⟩, .string ⟨#[]⟩, .slice none 0 0] : List Value)[i]? = some v := hv
      exact (List.getElem?_append_right (l₁ := ([.int .i64 1, .int .i64 0, .int .i64 0, .string ⟨#[]⟩, .string ⟨#[]⟩, .string ⟨#[97]⟩, .slice none 0 0] : List Value)) (i := 7 + i) (by simp)).trans (by simpa using hv')
  · match j, hy with
    | 0, hy => injection hy with hy; subst hy; exact RdK_nil _ _ _
    | 1, hy => injection hy with hy; subst hy; exact RdK_nil _ _ _

set_option maxHeartbeats 4000000 in
set_option maxRecDepth 100000 in
theorem alive_any (B : Nat) (w : World) (he : Env B w) (hB : B ≤ w.heap.size) : Calls Tryz.prog 20 #[] w fun e w' => e = .returned (.bool true) ∧ Below w.heap.size w w' := by
  have hb1 := below1 w (.cells #[.int .i64 1, .int .i64 0, .int .i64 0, .string ⟨#[]⟩, .string ⟨#[]⟩, .string ⟨#[97]⟩, .slice none 0 0, .int .i64 0, .int .i64 1, .int .i64 1, .string ⟨#[]⟩, .string ⟨#[]⟩, .string ⟨#[]⟩, .slice none 0 0] 51)
  have hP := sPrintExpr_any xP (some ⟨w.heap.size, 0, none⟩) 2 _ (cells14_new w) ((he.step hB hb1).mono (by simp; omega))
  rw [txX_ok chkP, chkP, prP] at hP
  have HP := Lib.hid hP
  have HC := Lib.hid fun w => check8 w
  have hN := fun n w => wnum_any n w
  clear he hP
  go_enter Tryz.func20, Tryz.ntmps20
  go_upto_region 2 with (go_at_call 52; refine HP.out.mono ?_; rintro e w1 ⟨rfl, hb⟩; have HB := Lib.hid (below_of1 hb); clear hb)
  go_wp2_with (first | (go_at_call 14; refine (hN _ _).mono ?_; rintro e w2 ⟨rfl, rfl⟩) | (go_at_call 15; refine (HC.out _).mono ?_; rintro e w3 ⟨rfl, hb⟩; have HB3 := Lib.hid (below_call hb HB.out HB.out.size); clear hb))
  go_ret
  exact ⟨rfl, HB3.out⟩
end Go.Proofs.YtnbgnofbeklmkaaGreatDoor
