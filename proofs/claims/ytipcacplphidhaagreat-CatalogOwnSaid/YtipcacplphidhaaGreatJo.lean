/- What catalog's areColumns, areIndexes, isPlace and the functions that tell names answer: the walks. Conditions: lists that are read in memory. -/
import Derived.Test.YtipcacplphidhaaGreatJg
import Derived.Test.YtipcacplphidhaaGreatJn
namespace Go.Proofs.YtipcacplphidhaaGreat
open Go.RowKit Go.Sort
set_option linter.unusedSimpArgs false
set_option linter.unusedVariables false

def colB (x : Cl) : Bool := nameB x.m && (decide (1 ≤ x.k) && decide (x.k ≤ 3))
def colsB (l : List Cl) : Bool := !decide (l.length = 0) && (decide (l.length ≤ 8) && l.all colB)
def placeB (n : Nat) (k : Int) : Bool := decide (0 ≤ k) && decide (k < n)
def ixB (n : Nat) (x : Ix) : Bool := nameB x.m && placeB n x.c
def idxB (n : Nat) (l : List Ix) : Bool := decide (l.length ≤ 4) && l.all (ixB n)
theorem all_no {α : Type} {p : α → Bool} {l : List α} {j : Nat} (hj : j < l.length) (h : p l[j] = false) : l.all p = false := by
  rw [Bool.eq_false_iff]
  intro h2
  have := List.all_eq_true.1 h2 _ (List.getElem_mem hj)
  rw [h] at this; cases this
theorem all_yes {α : Type} {p : α → Bool} {l : List α} (h : (l.take l.length).all p = true) : l.all p = true := by rwa [List.take_length] at h
theorem all_succ {α : Type} {p : α → Bool} {l : List α} {j : Nat} (hj : j < l.length) (h : (l.take j).all p = true) (h2 : p l[j] = true) : (l.take (j + 1)).all p = true := by
  rw [List.take_succ_eq_append_getElem hj, List.all_append, h]
  simp [h2]

theorem colName_any (x : Cl) (w : World) : Calls Tryz.prog 18 #[x.val] w fun e w' => e = .returned (.string x.m) ∧ Below w.heap.size w w' := by
  go_enter Tryz.func18, Tryz.ntmps18
  go_wp2
  go_ret
  exact ⟨rfl, below1 _ _⟩
theorem ixName_any (x : Ix) (w : World) : Calls Tryz.prog 62 #[x.val] w fun e w' => e = .returned (.string x.m) ∧ Below w.heap.size w w' := by
  go_enter Tryz.func62, Tryz.ntmps62
  go_wp2
  go_ret
  exact ⟨rfl, below1 _ _⟩
theorem isPlace_any (m : ByteArray) (cA iA : Option Addr) (cn cc ic in_ : Nat) (key k : Int) (w : World) (hn : cn ≤ 9223372036854775807) :
    Calls Tryz.prog 84 #[.agg #[.string m, .slice cA cn cc, .int .i64 key, .slice iA in_ ic], .int .i64 k] w fun e w' => e = .returned (.bool (placeB cn k)) ∧ Below w.heap.size w w' := by
  by_cases h0 : 0 ≤ k
  · by_cases h1 : k < cn
    · have e : placeB cn k = true := by simp [placeB, h0, h1]
      rw [e]
      clear e
      go_enter Tryz.func84, Tryz.ntmps84
      go_wp2
      go_ret
      exact ⟨ret_bool (by simp [h0, h1]), below1 _ _⟩
    · have e : placeB cn k = false := by simp [placeB, h0, h1]
      rw [e]
      clear e
      go_enter Tryz.func84, Tryz.ntmps84
      go_wp2
      go_ret
      exact ⟨ret_bool (by simp [h0, h1]), below1 _ _⟩
  · have e : placeB cn k = false := by simp [placeB, h0]
    rw [e]
    clear e
    go_enter Tryz.func84, Tryz.ntmps84
    go_wp2
    go_ret
    exact ⟨ret_bool (by simp [h0]), below1 _ _⟩

set_option maxRecDepth 100000 in
set_option maxHeartbeats 4000000 in
theorem areColumns_any (A : Option Addr) (n c : Nat) (l : List Cl) (w : World) (hl : n = l.length) (hr : RdC w A l) :
    Calls Tryz.prog 82 #[.slice A n c] w fun e w' => e = .returned (.bool (colsB l)) ∧ Below w.heap.size w w' := by
  subst hl
  have HR := Lib.hid hr
  clear hr
  by_cases h0 : l.length = 0
  · have e : colsB l = false := by simp [colsB, h0]
    rw [e]
    clear e
    have h0i : ((l.length : Int) == 0) = true := beq_iff_eq.2 (by omega)
    go_enter Tryz.func82, Tryz.ntmps82
    go_wp2
    all_goals (go_ret; exact ⟨rfl, Below.refl _ _⟩)
  have h0i : ((l.length : Int) == 0) = false := beq_eq_false_iff_ne.2 (by omega)
  by_cases h8 : l.length ≤ 8
  · have e : colsB l = l.all colB := by simp [colsB, h0, h8]
    rw [e]
    clear e
    have h8i : (l.length : Int) ≤ 8 := by omega
    have hn := Lib.hid fun (s : ByteArray) (w : World) => sName_any s w
    go_enter Tryz.func82, Tryz.ntmps82
    go_wp2
    go_loopw [4, 15] (fun _ i wr => ∃ j : Nat, i = .int .i64 j ∧ j ≤ l.length ∧ (l.take j).all colB = true ∧ Below w.heap.size w wr) (fun _ i _ => l.length - (intOf i).toNat)
    case atStart => exact ⟨0, rfl, by omega, by simp, Below.refl _ _⟩
    case round =>
      obtain ⟨j, rfl, hj, hno, hB⟩ := hrel
      have HN := Lib.hid hno
      have HB := Lib.hid hB
      clear hno hB
      by_cases hlt : j < l.length
      · obtain ⟨ad, rfl, k0, k1, k2⟩ := (HR.out.below HB.out).at_ hlt
        have hk0 := cell_lt k0
        have HE : Hid (l[j] = l[j]) := Lib.hid rfl
        have HY : Hid (colB l[j] = true → (l.take (j + 1)).all colB = true) := Lib.hid (all_succ hlt HN.out)
        have HZ : Hid (colB l[j] = false → l.all colB = false) := Lib.hid (all_no hlt)
        clear HE
        generalize l[j] = x at k0 k1 k2 HY HZ
        have hnx := fun w => hn.out x.m w
        have hcb : colB x = (nameB x.m && (decide (1 ≤ x.k) && decide (x.k ≤ 3))) := rfl
        have HCB := Lib.hid hcb
        clear hcb
        generalize nameB x.m = N at hnx HCB
        have hb0 : ∀ o : Obj, (wr.alloc o).heap.size = wr.heap.size + 1 := fun o => by simp
        cases N
        · have HF : Hid (l.all colB = false) := Lib.hid (HZ.out (by rw [HCB.out]; rfl))
          go_wp2_with (go_at_call 81; refine (hnx _).mono ?_; rintro e w1 ⟨rfl, hb⟩; obtain ⟨hc, hf⟩ := bcell hb)
          go_ret
          exact ⟨ret_bool HF.out.symm, HB.out.trans (((below1 _ _).trans (hb.mono (by simp))).mono HB.out.size)⟩
        · by_cases hk1 : 1 ≤ x.k
          · by_cases hk3 : x.k ≤ 3
            · have HF : Hid ((l.take (j + 1)).all colB = true) := Lib.hid (HY.out (by rw [HCB.out]; simp [hk1, hk3]))
              go_wp2_with (go_at_call 81; refine (hnx _).mono ?_; rintro e w1 ⟨rfl, hb⟩; obtain ⟨hc, hf⟩ := bcell hb)
              go_roundw
              case rel => exact ⟨j + 1, by go_num, hlt, HF.out, HB.out.trans (((below1 _ _).trans (hb.mono (by simp))).mono HB.out.size)⟩
              case measure => simp [intOf]; omega
            · have HF : Hid (l.all colB = false) := Lib.hid (HZ.out (by rw [HCB.out]; simp [hk3]))
              go_wp2_with (go_at_call 81; refine (hnx _).mono ?_; rintro e w1 ⟨rfl, hb⟩; obtain ⟨hc, hf⟩ := bcell hb)
              go_ret
              exact ⟨ret_bool HF.out.symm, HB.out.trans (((below1 _ _).trans (hb.mono (by simp))).mono HB.out.size)⟩
          · have HF : Hid (l.all colB = false) := Lib.hid (HZ.out (by rw [HCB.out]; simp [hk1]))
            go_wp2_with (go_at_call 81; refine (hnx _).mono ?_; rintro e w1 ⟨rfl, hb⟩; obtain ⟨hc, hf⟩ := bcell hb)
            go_ret
            exact ⟨ret_bool HF.out.symm, HB.out.trans (((below1 _ _).trans (hb.mono (by simp))).mono HB.out.size)⟩
      · have HF : Hid (l.all colB = true) := Lib.hid (all_yes (by have := HN.out; rwa [show j = l.length by omega] at this))
        go_wp2
        go_ret
        exact ⟨ret_bool HF.out.symm, HB.out⟩
  · have e : colsB l = false := by simp [colsB, h8]
    rw [e]
    clear e
    have h8i : (8 : Int) < (l.length : Int) := by omega
    go_enter Tryz.func82, Tryz.ntmps82
    go_wp2
    all_goals (go_ret; exact ⟨rfl, Below.refl _ _⟩)

set_option maxRecDepth 100000 in
set_option maxHeartbeats 4000000 in
theorem areIndexes_any (m : ByteArray) (cA iA : Option Addr) (cn cc ic n : Nat) (key : Int) (l : List Ix) (w : World) (hl : n = l.length) (hr : RdX w iA l) (hcn : cn ≤ 9223372036854775807) :
    Calls Tryz.prog 83 #[.agg #[.string m, .slice cA cn cc, .int .i64 key, .slice iA n ic]] w fun e w' => e = .returned (.bool (idxB cn l)) ∧ Below w.heap.size w w' := by
  subst hl
  have HR := Lib.hid hr
  clear hr
  by_cases h4 : l.length ≤ 4
  · have e : idxB cn l = l.all (ixB cn) := by simp [idxB, h4]
    rw [e]
    clear e
    have h4i : (l.length : Int) ≤ 4 := by omega
    have hn := Lib.hid fun (s : ByteArray) (w : World) => sName_any s w
    have hp := Lib.hid fun (k : Int) (w : World) => isPlace_any m cA iA cn cc ic l.length key k w hcn
    have hx : (w.alloc (.cells #[.string m, .slice cA cn cc, .int .i64 key, .slice iA l.length ic] 46)).cell? ⟨w.heap.size, 0, none⟩ = some (.string m) ∧ (w.alloc (.cells #[.string m, .slice cA cn cc, .int .i64 key, .slice iA l.length ic] 46)).cell? ⟨w.heap.size, 1, none⟩ = some (.slice cA cn cc) ∧ (w.alloc (.cells #[.string m, .slice cA cn cc, .int .i64 key, .slice iA l.length ic] 46)).cell? ⟨w.heap.size, 2, none⟩ = some (.int .i64 key) ∧ (w.alloc (.cells #[.string m, .slice cA cn cc, .int .i64 key, .slice iA l.length ic] 46)).cell? ⟨w.heap.size, 3, none⟩ = some (.slice iA l.length ic) := ⟨by rw [cell_last _ _ _ _ _ rfl]; rfl, by rw [cell_last _ _ _ _ _ rfl]; rfl, by rw [cell_last _ _ _ _ _ rfl]; rfl, by rw [cell_last _ _ _ _ _ rfl]; rfl⟩
    have HX := Lib.hid hx
    clear hx
    go_enter Tryz.func83, Tryz.ntmps83
    go_wp2
    go_loopw [4, 12] (fun _ i wr => ∃ j : Nat, i = .int .i64 j ∧ j ≤ l.length ∧ (l.take j).all (ixB cn) = true ∧ Below w.heap.size w wr ∧ wr.cell? ⟨w.heap.size, 0, none⟩ = some (.string m) ∧ wr.cell? ⟨w.heap.size, 1, none⟩ = some (.slice cA cn cc) ∧ wr.cell? ⟨w.heap.size, 2, none⟩ = some (.int .i64 key) ∧ wr.cell? ⟨w.heap.size, 3, none⟩ = some (.slice iA l.length ic)) (fun _ i _ => l.length - (intOf i).toNat)
    case atStart => exact ⟨0, rfl, by omega, by simp, below1 _ _, HX.out⟩
    case round =>
      clear HX
      obtain ⟨j, rfl, hj, hno, hB, x0, x1, x2, x3⟩ := hrel
      have HN := Lib.hid hno
      have HB := Lib.hid hB
      clear hno hB
      have hwl := cell_lt x0
      by_cases hlt : j < l.length
      · obtain ⟨ad, rfl, k0, k1⟩ := (HR.out.below HB.out).at_ hlt
        have hk0 := cell_lt k0
        have HY : Hid (ixB cn l[j] = true → (l.take (j + 1)).all (ixB cn) = true) := Lib.hid (all_succ hlt HN.out)
        have HZ : Hid (ixB cn l[j] = false → l.all (ixB cn) = false) := Lib.hid (all_no hlt)
        generalize l[j] = x at k0 k1 HY HZ
        have hnx := fun w => hn.out x.m w
        have hpx := Lib.hid fun w => hp.out x.c w
        have hcb : ixB cn x = (nameB x.m && placeB cn x.c) := rfl
        have HCB := Lib.hid hcb
        clear hcb
        generalize nameB x.m = N at hnx HCB
        generalize placeB cn x.c = PL at hpx HCB
        cases N
        · have HF : Hid (l.all (ixB cn) = false) := Lib.hid (HZ.out (by rw [HCB.out]; rfl))
          go_wp2_with (go_at_call 81; refine (hnx _).mono ?_; rintro e w1 ⟨rfl, hb⟩; obtain ⟨hc, hf⟩ := bcell hb)
          go_ret
          exact ⟨ret_bool HF.out.symm, HB.out.trans (((below1 _ _).trans (hb.mono (by simp))).mono HB.out.size)⟩
        · cases PL
          · have HF : Hid (l.all (ixB cn) = false) := Lib.hid (HZ.out (by rw [HCB.out]; rfl))
            go_wp2_with (first | (go_at_call 81; refine (hnx _).mono ?_; rintro e w1 ⟨rfl, hb⟩; obtain ⟨hc, hf⟩ := bcell hb) | (go_at_call 84; refine (hpx.out _).mono ?_; rintro e w2 ⟨rfl, hb2⟩; have HB2 := Lib.hid hb2; clear hb2))
            go_ret
            exact ⟨ret_bool HF.out.symm, HB.out.trans (((below1 _ _).trans ((hb.trans (HB2.out.mono hb.size)).mono (by simp))).mono HB.out.size)⟩
          · have HF : Hid ((l.take (j + 1)).all (ixB cn) = true) := Lib.hid (HY.out (by rw [HCB.out]; rfl))
            go_wp2_with (first | (go_at_call 81; refine (hnx _).mono ?_; rintro e w1 ⟨rfl, hb⟩; obtain ⟨hc, hf⟩ := bcell hb) | (go_at_call 84; refine (hpx.out _).mono ?_; rintro e w2 ⟨rfl, hb2⟩; have HB2 := Lib.hid hb2; clear hb2))
            have HBB := Lib.hid ((below1 wr _).trans ((hb.trans (HB2.out.mono hb.size)).mono (by simp)))
            go_roundw
            case rel => exact ⟨j + 1, by go_num, hlt, HF.out, HB.out.trans (HBB.out.mono HB.out.size), (HBB.out.cell hwl).trans x0, (HBB.out.cell (p := ⟨w.heap.size, 1, none⟩) hwl).trans x1, (HBB.out.cell (p := ⟨w.heap.size, 2, none⟩) hwl).trans x2, (HBB.out.cell (p := ⟨w.heap.size, 3, none⟩) hwl).trans x3⟩
            case measure => simp [intOf]; omega
      · have HF : Hid (l.all (ixB cn) = true) := Lib.hid (all_yes (by have := HN.out; rwa [show j = l.length by omega] at this))
        go_wp2
        go_ret
        exact ⟨ret_bool HF.out.symm, HB.out⟩
  · have e : idxB cn l = false := by simp [idxB, h4]
    rw [e]
    clear e
    have h4i : (4 : Int) < (l.length : Int) := by omega
    go_enter Tryz.func83, Tryz.ntmps83
    go_wp2
    all_goals (go_ret; exact ⟨rfl, below1 _ _⟩)
end Go.Proofs.YtipcacplphidhaaGreat
