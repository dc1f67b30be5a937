/- Where a key stands in a list of rows that is ordered: the walks of slices.BinarySearchFunc and find. Conditions: rows that have the key's column; at most 256 of them. -/
import Derived.Test.YtjbebhhoakmceaaJe
namespace Go.Proofs.Ytjbebhhoakmceaa
open Go.RowKit Go.Sort
set_option linter.unusedSimpArgs false
set_option linter.unusedVariables false

set_option maxRecDepth 100000 in
set_option maxHeartbeats 4000000 in
theorem search_any (b : Nat) (m : ByteArray) (cA iA : Option Addr) (cn cc ic in_ kk : Nat) (lv : Value) (A : Option Addr) (n c : Nat) (ls : List (List Vl)) (v : Vl) (w : World) (hx : Box5 w b m cA cn cc kk iA in_ ic lv) (hl : n = ls.length) (hr : RdR w A ls) (hk : ∀ r ∈ ls, kk < r.length) (hn : ls.length ≤ 256) (hs : Srt kk ls) :
    Calls Try.prog 33 #[.slice A n c, v.val, .func (.func 34) #[] #[.pointer (some ⟨b, 0, none⟩)]] w fun e w' => e = .returned (.tuple #[.int .i64 (pos kk ls v), .bool (isAt kk ls v)]) ∧ Below w.heap.size w w' := by
  subst hl
  have hbl := hx.lt
  have HX := Lib.hid hx
  have HR := Lib.hid hr
  have HK := Lib.hid hk
  have HS := Lib.hid hs
  have hV := Row.new w v 39 w.heap.size rfl
  have HV := Lib.hid hV
  clear hx hr hk hs hV
  go_enter Try.func33, Try.ntmps33
  go_wp2
  go_loopw [9, 10, 11] (fun a z _ wr => ∃ i j : Nat, a = .int .i64 i ∧ z = .int .i64 j ∧ i ≤ j ∧ j ≤ ls.length ∧ (∀ h : 0 < i, ∀ h2 : i - 1 < ls.length, bef kk v ls[i - 1] = true) ∧ (∀ h : j < ls.length, bef kk v ls[j] = false) ∧ Below w.heap.size w wr ∧ Row wr w.heap.size [v]) (fun a z _ _ => (intOf z).toNat - (intOf a).toNat)
  case atStart => exact ⟨0, ls.length, rfl, rfl, by omega, by omega, fun h => by omega, fun h => by omega, below1 _ _, HV.out⟩
  case round =>
    obtain ⟨i, j, rfl, rfl, hij, hj, h1, h2, hB, hRw⟩ := hrel
    have H1 := Lib.hid h1
    have H2 := Lib.hid h2
    have HB := Lib.hid hB
    have HW := Lib.hid hRw
    clear h1 h2 hB hRw HV
    by_cases hlt : i < j
    · go_wp2_with fail
      rw [show ((i : Int) + (j : Int)) / 2 = (((i + j) / 2 : Nat) : Int) by omega]
      obtain ⟨h, hh⟩ : ∃ h, h = (i + j) / 2 := ⟨_, rfl⟩
      have hi1 : i ≤ h := by omega
      have hi2 : h < j := by omega
      rw [← hh]
      clear hh
      have hhl : h < ls.length := by omega
      obtain ⟨ad, rB, rc, rfl, q0, qr, _, qn⟩ := (HR.out.below HB.out).at_ hhl
      obtain ⟨v0, v1, v2, _, _, _⟩ := HW.out.one
      have hq0 := cell_lt q0
      have hf := fun W (hb : Below wr.heap.size wr W) => find1_any b m cA iA cn cc ic in_ kk lv rB ls[h].length rc ls[h] v W ((HX.out.below HB.out).below hb) rfl (qr.below hb) (HK.out _ (List.getElem_mem hhl)) qn
      have hbf : bef kk v ls[h] = decide (ordL (keyAt kk ls[h]) v < 0) := rfl
      have HBF := Lib.hid hbf
      clear hbf qr
      generalize ordL (keyAt kk ls[h]) v = O at hf HBF
      have HF := Lib.hid hf
      clear hf
      have e0 := cell_regrown q0
      have u0 := cell_regrown v0
      have u1 := cell_regrown v1
      have u2 := cell_regrown v2
      have hlt' : (h : Int) < (ls.length : Int) := by omega
      clear q0 v0 v1 v2
      refine wp_region_quiet_below (by kernel_rfl) (by kernel_rfl) ?_
      repeat (go_big_quiet_step (with_reducible exact Calls.regrown_of (HF.out _ (below_regrown _ _ _))))
      refine wpQuiet_nil ?_
      intro w5 hw5
      obtain ⟨pp, rfl⟩ := hw5
      have HB5 := Lib.hid (below_regrown wr pp.d pp.os)
      clear e0 u0 u1 u2 HF
      generalize grow (redrawn wr pp.d) pp.os = W5 at HB5 ⊢
      by_cases hO : O < 0
      · have HN : Hid (bef kk v ls[h] = true) := by rw [HBF.out]; exact decide_eq_true hO
        go_wp2
        go_roundw
        case rel => exact ⟨h + 1, j, by go_num, rfl, by omega, hj, fun _ _ => by simpa using HN.out, H2.out, HB.out.trans (HB5.out.mono HB.out.size), HW.out.below HB5.out⟩
        case measure => simp [intOf]; omega
      · have HN : Hid (bef kk v ls[h] = false) := by rw [HBF.out]; exact decide_eq_false hO
        go_wp2
        go_roundw
        case rel => exact ⟨i, h, rfl, rfl, hi1, by omega, H1.out, fun _ => HN.out, HB.out.trans (HB5.out.mono HB.out.size), HW.out.below HB5.out⟩
        case measure => simp [intOf]; omega
    · obtain rfl : i = j := by omega
      have hp : pos kk ls v = i := pos_of HS.out hj (fun h => H1.out h (by omega)) H2.out
      have hat : isAt kk ls v = (match ls[i]? with | some r => isK kk v r | none => false) := by unfold isAt; rw [hp]; rfl
      have HP := Lib.hid hp
      have HAT := Lib.hid hat
      clear hp hat
      by_cases hn2 : i < ls.length
      · obtain ⟨ad, rB, rc, rfl, q0, qr, _, qn⟩ := (HR.out.below HB.out).at_ hn2
        obtain ⟨v0, v1, v2, _, _, _⟩ := HW.out.one
        have hq0 := cell_lt q0
        have hf := fun W (hb : Below wr.heap.size wr W) => find1_any b m cA iA cn cc ic in_ kk lv rB ls[i].length rc ls[i] v W ((HX.out.below HB.out).below hb) rfl (qr.below hb) (HK.out _ (List.getElem_mem hn2)) qn
        have HAT2 : Hid (isAt kk ls v = decide (ordL (keyAt kk ls[i]) v = 0)) := by rw [HAT.out, List.getElem?_eq_getElem hn2]; rfl
        clear qr HAT
        generalize ordL (keyAt kk ls[i]) v = O at hf HAT2
        have HF := Lib.hid hf
        clear hf
        go_wp2_with fail
        have e0 := cell_regrown q0
        have u0 := cell_regrown v0
        have u1 := cell_regrown v1
        have u2 := cell_regrown v2
        have hlt' : (i : Int) < (ls.length : Int) := by omega
        have hd : decide ((i : Int) < (ls.length : Int)) = true := decide_eq_true hlt'
        have hd2 : decide (i < ls.length) = true := decide_eq_true hn2
        clear q0 v0 v1 v2
        refine wp_region_quiet_below (by kernel_rfl) (by kernel_rfl) ?_
        repeat (go_big_quiet_step (with_reducible exact Calls.regrown_of (HF.out _ (below_regrown _ _ _))))
        refine wpQuiet_nil ?_
        intro w5 hw5
        obtain ⟨pp, rfl⟩ := hw5
        have HB5 := Lib.hid (below_regrown wr pp.d pp.os)
        clear e0 u0 u1 u2 HF
        generalize grow (redrawn wr pp.d) pp.os = W5 at HB5 ⊢
        go_wp2
        go_ret2
        exact ⟨by rw [HP.out, HAT2.out]; first | rfl | simp, HB.out.trans (HB5.out.mono HB.out.size)⟩
      · have HAT2 : Hid (isAt kk ls v = false) := Lib.hid (by rw [HAT.out, List.getElem?_eq_none (by omega)])
        have hd : decide ((i : Int) < (ls.length : Int)) = false := by simp; omega
        have hd2 : decide (i < ls.length) = false := decide_eq_false hn2
        clear HAT
        go_wp2_with fail
        refine wp_region_quiet_below (by kernel_rfl) (by kernel_rfl) ?_
        repeat (go_big_quiet_step (fail))
        refine wpQuiet_nil ?_
        intro w5 hw5
        obtain ⟨pp, rfl⟩ := hw5
        have HB5 := Lib.hid (below_regrown wr pp.d pp.os)
        generalize grow (redrawn wr pp.d) pp.os = W5 at HB5 ⊢
        go_wp2
        go_ret2
        exact ⟨by rw [HP.out, HAT2.out]; first | rfl | simp, HB.out.trans (HB5.out.mono HB.out.size)⟩

theorem wfind_any (m : ByteArray) (cA iA : Option Addr) (cn cc ic in_ kk : Nat) (A : Option Addr) (n c : Nat) (ls : List (List Vl)) (v : Vl) (w : World) (hl : n = ls.length) (hr : RdR w A ls) (hk : ∀ r ∈ ls, kk < r.length) (hn : ls.length ≤ 256) (hs : Srt kk ls) :
    Calls Try.prog 22 #[.agg #[.string m, .slice cA cn cc, .int .i64 kk, .slice iA in_ ic, .slice A n c], v.val] w fun e w' => e = .returned (.tuple #[.int .i64 (pos kk ls v), .bool (isAt kk ls v)]) ∧ Below w.heap.size w w' := by
  have hc := search_any w.heap.size m cA iA cn cc ic in_ kk (.slice A n c) A n c ls v ((w.alloc (.cells #[.string m, .slice cA cn cc, .int .i64 kk, .slice iA in_ ic, .slice A n c] 59)).alloc (.cells #[.int .i64 v.k, .int .i64 v.n, .string v.s] 39))
    (Box5.below (w := w.alloc (.cells #[.string m, .slice cA cn cc, .int .i64 kk, .slice iA in_ ic, .slice A n c] 59)) ⟨by rw [cell_last _ _ _ _ _ rfl]; rfl, by rw [cell_last _ _ _ _ _ rfl]; rfl, by rw [cell_last _ _ _ _ _ rfl]; rfl, by rw [cell_last _ _ _ _ _ rfl]; rfl, by rw [cell_last _ _ _ _ _ rfl]; rfl⟩ (below1 _ _)) hl ((hr.below (below1 _ _)).below (below1 _ _)) hk hn hs
  have HC := Lib.hid hc
  clear hc hl hr hk hs
  go_enter Try.func22, Try.ntmps22
  go_wp2_with (go_at_call 33; refine HC.out.mono ?_; rintro e w1 ⟨rfl, hb⟩)
  go_ret2
  exact ⟨rfl, (((below1 w _).alloc (by simp) _).trans (hb.mono (by simp; omega)))⟩
end Go.Proofs.Ytjbebhhoakmceaa
