/- What the reader's sign does: the walk. Conditions: a reader in a block of its own, ahead of an octet. -/
import Derived.Test.YtlehmnbigocgdaaGreatDoorLvg
import Derived.IntWalk
namespace Go.Proofs.YtlehmnbigocgdaaGreatDoor.Lx
open Go.RowKit
set_option linter.unusedSimpArgs false
set_option linter.unusedVariables false

def two : Nat → List UInt8
  | 0 => [60, 61]
  | 1 => [62, 61]
  | _ => [60, 62]
def twoS (k : Nat) : ByteArray := ⟨(two k).toArray⟩
/-- The length behind k of the signs of two. -/
def lenK (r : List UInt8) : Nat → Nat
  | 0 => 1
  | k + 1 => if isPre (two k) r = true then 2 else lenK r k
theorem lenK_all (r : List UInt8) : lenK r 3 = sgnLen r := by
  unfold sgnLen
  simp only [lenK, two]
  by_cases h0 : isPre [60, 61] r = true <;> by_cases h1 : isPre [62, 61] r = true <;> by_cases h2 : isPre [60, 62] r = true <;> simp [h0, h1, h2]
theorem lenK_two (r : List UInt8) : ∀ k, lenK r k = 1 ∨ lenK r k = 2
  | 0 => .inl rfl
  | k + 1 => by
    rw [lenK]; split
    · exact .inr rfl
    · exact lenK_two r k

set_option maxHeartbeats 4000000 in
theorem sign_any (g : Nat) (s : ByteArray) (j : Nat) (w : World) (h : Rdr w g s j) (hj : j < s.size) (hs : s.size ≤ 140737488355328) :
    Calls Tryz.prog 98 #[.pointer (some ⟨g, 0, none⟩)] w fun e w' => e = .returned (.string (s.extract j (j + sgnLen (rest s j)))) ∧ Rdr w' g s (j + sgnLen (rest s j)) ∧ w.grownBy w' (some g) := by
  have hmax : s.size ≤ maxLen := by unfold maxLen; omega
  have HM := Lib.hid hmax
  have hsg : sgnLen (rest s j) ≤ (rest s j).length ∧ 1 ≤ sgnLen (rest s j) := by
    have h1 := rest_length s j
    cases hr : rest s j with
    | nil => rw [hr] at h1; simp at h1; omega
    | cons c q => have := sgnLen_le c q; omega
  rw [rest_length] at hsg
  have HSg := Lib.hid hsg
  have hb : ∀ (k i : Nat) (w1 : World), i = j → Rdr w1 g s i → Calls Tryz.prog 89 #[.pointer (some ⟨g, 0, none⟩), .string (twoS k)] w1 fun e w' => e = .returned (.bool (isPre (two k) (rest s j))) ∧ Rdr w' g s j ∧ w1.grownBy w' (some g) := fun k i w1 hi h1 => by
    subst hi
    have := begins_any g (twoS k) s i w1 h1 (by omega) HM.out
    have e : (twoS k).data.toList = two k := by simp [twoS]
    rw [e] at this
    exact this
  have HALL := Lib.hid (lenK_all (rest s j))
  have H := Lib.hid h
  clear h hmax hsg
  have i0 : ∀ w, (Instr.index 160 (.agg #[.string ⟨#[60, 61]⟩, .string ⟨#[62, 61]⟩, .string ⟨#[60, 62]⟩]) (.int .i64 0)).run Tryz.prog w = .ok (.string ⟨#[60, 61]⟩) w := fun _ => by kernel_rfl
  have i1 : ∀ w, (Instr.index 160 (.agg #[.string ⟨#[60, 61]⟩, .string ⟨#[62, 61]⟩, .string ⟨#[60, 62]⟩]) (.int .i64 1)).run Tryz.prog w = .ok (.string ⟨#[62, 61]⟩) w := fun _ => by kernel_rfl
  have i2 : ∀ w, (Instr.index 160 (.agg #[.string ⟨#[60, 61]⟩, .string ⟨#[62, 61]⟩, .string ⟨#[60, 62]⟩]) (.int .i64 2)).run Tryz.prog w = .ok (.string ⟨#[60, 62]⟩) w := fun _ => by kernel_rfl
  go_enter Tryz.func98, Tryz.ntmps98
  go_wp2_with fail
  go_loopw [3, 7] (fun l i wr => ∃ k : Nat, k ≤ 3 ∧ i = .int .i64 k ∧ l = .int .i64 (lenK (rest s j) k) ∧ Rdr wr g s j ∧ w.grownBy wr (some g)) (fun _ i _ => 3 - (intOf i).toNat)
  case atStart => exact ⟨0, by omega, rfl, rfl, H.out, World.grownBy.refl _ _⟩
  case round =>
    obtain ⟨k, hk, rfl, rfl, hR, hG⟩ := hrel
    have HR := Lib.hid hR
    have HG := Lib.hid hG
    clear hR hG
    rcases (show k = 0 ∨ k = 1 ∨ k = 2 ∨ k = 3 from by omega) with rfl | rfl | rfl | rfl
    · have hb0 : Calls Tryz.prog 89 #[.pointer (some ⟨g, 0, none⟩), .string ⟨#[60, 61]⟩] wr fun e w' => e = .returned (.bool (isPre (two 0) (rest s j))) ∧ Rdr w' g s j ∧ wr.grownBy w' (some g) := hb 0 j wr rfl HR.out
      have hL : lenK (rest s j) 1 = if isPre (two 0) (rest s j) = true then 2 else lenK (rest s j) 0 := rfl
      generalize isPre (two 0) (rest s j) = b at hb0 hL
      generalize lenK (rest s j) 0 = l0 at hL ⊢
      have HL := Lib.hid hL
      clear hL
      cases b
      all_goals
        go_wp2_with (go_at_call 89; refine hb0.mono ?_; rintro e w2 ⟨rfl, hR2, hG2⟩)
        go_roundw
        case rel => exact ⟨1, by omega, by go_num, by rw [HL.out]; rfl, by assumption, grownBy_trans HG.out (by assumption) (.inl rfl)⟩
        case measure => simp [intOf]
    · have hb0 : Calls Tryz.prog 89 #[.pointer (some ⟨g, 0, none⟩), .string ⟨#[62, 61]⟩] wr fun e w' => e = .returned (.bool (isPre (two 1) (rest s j))) ∧ Rdr w' g s j ∧ wr.grownBy w' (some g) := hb 1 j wr rfl HR.out
      have hL : lenK (rest s j) 2 = if isPre (two 1) (rest s j) = true then 2 else lenK (rest s j) 1 := rfl
      generalize isPre (two 1) (rest s j) = b at hb0 hL
      generalize lenK (rest s j) 1 = l0 at hL ⊢
      have HL := Lib.hid hL
      clear hL
      cases b
      all_goals
        go_wp2_with (go_at_call 89; refine hb0.mono ?_; rintro e w2 ⟨rfl, hR2, hG2⟩)
        go_roundw
        case rel => exact ⟨2, by omega, by go_num, by rw [HL.out]; rfl, by assumption, grownBy_trans HG.out (by assumption) (.inl rfl)⟩
        case measure => simp [intOf]
    · have hb0 : Calls Tryz.prog 89 #[.pointer (some ⟨g, 0, none⟩), .string ⟨#[60, 62]⟩] wr fun e w' => e = .returned (.bool (isPre (two 2) (rest s j))) ∧ Rdr w' g s j ∧ wr.grownBy w' (some g) := hb 2 j wr rfl HR.out
      have hL : lenK (rest s j) 3 = if isPre (two 2) (rest s j) = true then 2 else lenK (rest s j) 2 := rfl
      generalize isPre (two 2) (rest s j) = b at hb0 hL
      generalize lenK (rest s j) 2 = l0 at hL ⊢
      have HL := Lib.hid hL
      clear hL
      cases b
      all_goals
        go_wp2_with (go_at_call 89; refine hb0.mono ?_; rintro e w2 ⟨rfl, hR2, hG2⟩)
        go_roundw
        case rel => exact ⟨3, by omega, by go_num, by rw [HL.out]; rfl, by assumption, grownBy_trans HG.out (by assumption) (.inl rfl)⟩
        case measure => simp [intOf]
    · have hA := HALL.out
      rw [hA]
      have h1 := HSg.out
      obtain ⟨l, hl⟩ : ∃ l, l = sgnLen (rest s j) := ⟨_, rfl⟩
      rw [← hl] at h1 ⊢
      have HLl := Lib.hid hl
      clear hl
      obtain ⟨h1, h2⟩ := h1
      clear hA hb i0 i1 i2
      obtain ⟨c0, c1, f1⟩ := HR.out.cells
      go_wp2_with fail
      have hR3 : Rdr (wr.setCell ⟨g, 1, none⟩ (.int .i64 ((j : Int) + l))) g s (j + l) := HR.out.step 0 l
      have hG3 : wr.grownBy (wr.setCell ⟨g, 1, none⟩ (.int .i64 ((j : Int) + l))) (some g) := grownBy_setCell _ _ _ _
      generalize wr.setCell ⟨g, 1, none⟩ (.int .i64 ((j : Int) + l)) = w3 at hR3 hG3 ⊢
      obtain ⟨m, hm⟩ : ∃ m : Nat, m = j + l := ⟨_, rfl⟩
      have hmi : (j : Int) + l = (m : Int) := by omega
      rw [hmi]
      rw [← hm] at hR3
      have HMm : Hid (m = j + sgnLen (rest s j)) := by show _ = _; rw [hm, HLl.out]
      have hjm : j ≤ m := by omega
      have hms : m ≤ s.size := by omega
      have hw : IntKind.i64.wrap ((m : Int) - l) = j := by
        have : (m : Int) - l = j := by omega
        rw [this]; exact IntWalk.i64_in _ (by omega)
      clear c0 c1 f1 hm hmi h1 h2
      obtain ⟨c0, c1, f1⟩ := hR3.cells
      have HR3 := Lib.hid hR3
      have HG3 := Lib.hid hG3
      have hsz : (s.extract j m).size ≤ 140737488355328 := by rw [ByteArray.size_extract]; omega
      have HSZ := Lib.hid hsz
      have b1 : (j : Int) ≤ (m : Int) := by omega
      have b2 : (m : Int) ≤ (s.size : Int) := by omega
      have b3 : (0 : Int) ≤ (j : Int) := by omega
      clear hR3 hG3 hsz f1
      go_region_held3 (fun w1 => w1.cell? ⟨g, 0, none⟩ = some (.string s) ∧ w1.cell? ⟨g, 1, none⟩ = some (.int .i64 m)) (first | assumption | simp [*]) ((go_at_call 125; refine (clone_any _ _ HSZ.out).mono ?_; rintro e w4 ⟨rfl, hB⟩; have hR4 : Rdr w4 g s m := (Rdr.grown (row := none) (show Rdr w3.drew g s m from HR3.out) (below_grown hB none) (by simp)); obtain ⟨d0, d1, _⟩ := hR4.cells))
      all_goals
        have HR4 := Lib.hid hR4
        have HB := Lib.hid hB
        clear hR4 hB d0 d1
        go_wp2
        go_ret
        refine ⟨ret_str (by rw [← HMm.out]), by rw [← HMm.out]; exact HR4.out, ?_⟩
        exact grownBy_trans HG.out (grownBy_trans HG3.out (grownBy_trans (grownBy_drewN _ 1 _) (below_grown HB.out _) (.inl rfl)) (.inl rfl)) (.inl rfl)
end Go.Proofs.YtlehmnbigocgdaaGreatDoor.Lx
