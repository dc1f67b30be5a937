/- Where a table's name stands in a catalog: the walks of slices.BinarySearchFunc, placeOf and Find. Conditions: tables that are read in memory; for placeOf by their names, rising, and few. -/
import Derived.Test.YtddeaiciochggaaNe
namespace Go.Proofs.Ytddeaiciochggaa
open Go.RowKit Go.Sort Go.Maps
set_option linter.unusedSimpArgs false
set_option linter.unusedVariables false

set_option maxHeartbeats 1000000 in
theorem place1_any (m : ByteArray) (cA iA : Option Addr) (cn cc in_ ic : Nat) (k : Int) (s : ByteArray) (w : World) :
    Calls Try.prog 46 #[tbl m cA cn cc k iA in_ ic, .string s] w fun e w' => e = .returned (.int .i64 (ordS m s)) ∧ Below w.heap.size w w' := by
  have HC := Lib.hid fun W => cmpS_any m s W
  have HB := Lib.hid (below1 w (.cells #[.string m, .slice cA cn cc, .int .i64 k, .slice iA in_ ic] 47))
  go_enter Try.func46, Try.ntmps46
  go_wp2_with (go_at_call 47; refine (HC.out _).mono ?_; rintro e w1 ⟨rfl, rfl⟩)
  go_ret
  exact ⟨rfl, HB.out⟩

set_option maxRecDepth 100000 in
set_option maxHeartbeats 4000000 in
theorem searchT_any (A : Option Addr) (c : Nat) (ls : List Tb) (s : ByteArray) (w : World) (hr : RdS w A ls) (hn : ls.length ≤ 8) (hs : SrtT ls) :
    Calls Try.prog 45 #[.slice A ls.length c, .string s, .func (.func 46) #[] #[]] w fun e w' => e = .returned (.tuple #[.int .i64 (posT ls s), .bool (isT ls s)]) ∧ Below w.heap.size w w' := by
  have HR := Lib.hid hr
  have HS := Lib.hid hs
  clear hr hs
  go_enter Try.func45, Try.ntmps45
  go_wp2
  go_loopw [9, 10, 11] (fun a z _ wr => ∃ i j : Nat, a = .int .i64 i ∧ z = .int .i64 j ∧ i ≤ j ∧ j ≤ ls.length ∧ (∀ h : 0 < i, ∀ h2 : i - 1 < ls.length, befT s ls[i - 1] = true) ∧ (∀ h : j < ls.length, befT s ls[j] = false) ∧ Below w.heap.size w wr) (fun a z _ _ => (intOf z).toNat - (intOf a).toNat)
  case atStart => exact ⟨0, ls.length, rfl, rfl, by omega, by omega, fun h => by omega, fun h => by omega, Below.refl _ _⟩
  case round =>
    obtain ⟨i, j, rfl, rfl, hij, hj, h1, h2, hB⟩ := hrel
    have H1 := Lib.hid h1
    have H2 := Lib.hid h2
    have HB := Lib.hid hB
    clear h1 h2 hB
    by_cases hlt : i < j
    · go_upto_region 5 with fail
      rw [show ((i : Int) + (j : Int)) / 2 = (((i + j) / 2 : Nat) : Int) by omega]
      obtain ⟨h, hh⟩ : ∃ h, h = (i + j) / 2 := ⟨_, rfl⟩
      have hi1 : i ≤ h := by omega
      have hi2 : h < j := by omega
      rw [← hh]
      clear hh
      have hhl : h < ls.length := by omega
      obtain ⟨ad, rfl, cA, iA, cc, ic, k0, k1, k2, k3, _⟩ := (HR.out.below HB.out).at_ hhl
      have hq0 := cell_lt k0
      have hbf : befT s ls[h] = decide (ordS ls[h].m s < 0) := ordS_neg_iff.symm
      have HBF := Lib.hid hbf
      clear hbf
      have HF := Lib.hid fun W => place1_any ls[h].m cA iA ls[h].cols.length cc ls[h].idx.length ic ls[h].key s W
      generalize ordS ls[h].m s = O at HF HBF
      have hlt' : (h : Int) < (ls.length : Int) := by omega
      by_cases hO : O < 0
      · have HN : Hid (befT s ls[h] = true) := by rw [HBF.out]; exact decide_eq_true hO
        go_wp2_with (go_at_call 46; (with_reducible refine (HF.out _).mono ?_); rintro e w5 ⟨rfl, hb⟩; have HB5 := Lib.hid hb; clear hb)
        go_roundw
        case rel => exact ⟨h + 1, j, by go_num, rfl, by omega, hj, fun _ _ => by simpa using HN.out, H2.out, HB.out.trans (HB5.out.mono HB.out.size)⟩
        case measure => simp [intOf]; omega
      · have HN : Hid (befT s ls[h] = false) := by rw [HBF.out]; exact decide_eq_false hO
        go_wp2_with (go_at_call 46; (with_reducible refine (HF.out _).mono ?_); rintro e w5 ⟨rfl, hb⟩; have HB5 := Lib.hid hb; clear hb)
        go_roundw
        case rel => exact ⟨i, h, rfl, rfl, hi1, by omega, H1.out, fun _ => HN.out, HB.out.trans (HB5.out.mono HB.out.size)⟩
        case measure => simp [intOf]; omega
    · obtain rfl : i = j := by omega
      have hp : posT ls s = i := posT_of HS.out hj (fun h => H1.out h (by omega)) H2.out
      have hat : isT ls s = (match ls[i]? with | some t => decide (ordS t.m s = 0) | none => false) := by unfold isT; rw [hp]; rfl
      have HP := Lib.hid hp
      have HAT := Lib.hid hat
      clear hp hat
      by_cases hn2 : i < ls.length
      · obtain ⟨ad, rfl, cA, iA, cc, ic, k0, k1, k2, k3, _⟩ := (HR.out.below HB.out).at_ hn2
        have hq0 := cell_lt k0
        have hat2 : isT ls s = decide (ordS ls[i].m s = 0) := by rw [HAT.out, List.getElem?_eq_getElem hn2]
        have HAT2 := Lib.hid hat2
        clear hat2
        clear HAT
        have HF := Lib.hid fun W => place1_any ls[i].m cA iA ls[i].cols.length cc ls[i].idx.length ic ls[i].key s W
        generalize ordS ls[i].m s = O at HF HAT2
        have hlt' : (i : Int) < (ls.length : Int) := by omega
        have hd : decide ((i : Int) < (ls.length : Int)) = true := decide_eq_true hlt'
        have hd2 : decide (i < ls.length) = true := decide_eq_true hn2
        go_wp2_with (go_at_call 46; (with_reducible refine (HF.out _).mono ?_); rintro e w5 ⟨rfl, hb⟩; have HB5 := Lib.hid hb; clear hb)
        go_ret2
        exact ⟨by rw [HP.out, HAT2.out]; first | rfl | simp, HB.out.trans (HB5.out.mono HB.out.size)⟩
      · have HAT2 : Hid (isT ls s = false) := Lib.hid (by rw [HAT.out, List.getElem?_eq_none (by omega)])
        have hd : decide ((i : Int) < (ls.length : Int)) = false := by simp; omega
        have hd2 : decide (i < ls.length) = false := decide_eq_false hn2
        clear HAT
        go_wp2
        go_ret2
        exact ⟨by rw [HP.out, HAT2.out]; first | rfl | simp, HB.out⟩

set_option maxRecDepth 100000 in
set_option maxHeartbeats 1000000 in
theorem placeOf_any (A : Option Addr) (c : Nat) (ls : List Tb) (s : ByteArray) (w : World) (hr : RdS w A ls) (hn : ls.length ≤ 8) (hs : SrtT ls) :
    Calls Try.prog 21 #[.agg #[.slice A ls.length c], .string s] w fun e w' => e = .returned (.tuple #[.int .i64 (posT ls s), .bool (isT ls s)]) ∧ Below w.heap.size w w' := by
  have HB1 := Lib.hid (below1 w (.cells #[.slice A ls.length c] 35))
  have HC := Lib.hid (searchT_any A c ls s (w.alloc (.cells #[.slice A ls.length c] 35)) (hr.below HB1.out) hn hs)
  clear hr hs
  generalize posT ls s = P at HC ⊢
  generalize isT ls s = I at HC ⊢
  go_enter Try.func21, Try.ntmps21
  go_wp2_with (go_at_call 45; (with_reducible refine HC.out.mono ?_); rintro e w1 ⟨rfl, hb⟩; have HB := Lib.hid (thn HB1.out hb); clear hb)
  go_ret2
  exact ⟨rfl, HB.out⟩
set_option maxRecDepth 100000 in
set_option maxHeartbeats 1000000 in
theorem find_any (A : Option Addr) (c : Nat) (ls : List Tb) (s : ByteArray) (w : World) (hr : RdS w A ls) (hn : ls.length ≤ 9223372036854775807) :
    Calls Try.prog 9 #[.agg #[.slice A ls.length c], .string s] w fun e w' => e = .returned (.tuple #[.int .i64 (findF ls s).1, .int .i64 (findF ls s).2]) ∧ Below w.heap.size w w' := by
  have HB1 := Lib.hid (below1 w (.cells #[.slice A ls.length c] 35))
  have s0 := cell_of_box (w' := w.alloc (.cells #[.slice A ls.length c] 35)) rfl (Below.refl _ _)
  have hC := cCheck_any6 A ls.length c ls (w.alloc (.cells #[.slice A ls.length c] 35)) rfl (hr.below HB1.out) hn
  cases hcat : catB ls
  · rw [hcat] at hC
    have hF : findF ls s = (0, 9) := by unfold findF; rw [if_pos hcat]
    rw [hF]
    have HC := Lib.hid hC
    clear hC hF hr hcat s0
    go_enter Try.func9, Try.ntmps9
    go_wp2_with (go_at_call 12; (with_reducible refine HC.out.mono ?_); rintro e w1 ⟨rfl, hb⟩; have HB := Lib.hid (thn HB1.out hb); clear hb)
    go_ret2
    exact ⟨rfl, HB.out⟩
  · rw [hcat] at hC
    have hcl := cat_of hcat
    have HC := Lib.hid hC
    have HP := Lib.hid fun (W : World) (hb : Below w.heap.size w W) => placeOf_any A c ls s W (hr.below hb) hcl.few hcl.srt
    have hF : findF ls s = if isT ls s = true then ((posT ls s : Int), (0 : Int)) else (0, 93) := by unfold findF; rw [if_neg (by rw [hcat]; decide)]
    rw [hF]
    generalize posT ls s = P at HP ⊢
    generalize isT ls s = I at HP ⊢
    have HS0 := Lib.hid fun (W : World) (hb : Below (w.alloc (.cells #[.slice A ls.length c] 35)).heap.size (w.alloc (.cells #[.slice A ls.length c] 35)) W) => cell_of_box (w := w) rfl hb
    clear hC hF hr hcat s0 hcl
    cases I
    all_goals
      go_enter Try.func9, Try.ntmps9
      go_wp2_with (first
        | (go_at_call 12; (with_reducible refine HC.out.mono ?_); rintro e w1 ⟨rfl, hb⟩; have HB := Lib.hid (thn HB1.out hb); have s1 := HS0.out _ hb; clear hb)
        | (go_at_call 21; (with_reducible refine (HP.out _ HB.out).mono ?_); rintro e w2 ⟨rfl, hb⟩; have HB2 := Lib.hid (thn HB.out hb); clear hb))
      go_ret2
      exact ⟨rfl, HB2.out⟩
end Go.Proofs.Ytddeaiciochggaa
