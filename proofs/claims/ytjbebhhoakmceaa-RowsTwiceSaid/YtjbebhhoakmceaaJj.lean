/- What rows' delete makes of the rows that are on their way: the walk. Conditions: a table of few columns that has its key's; at most 256 rows. -/
import Derived.Test.YtjbebhhoakmceaaJi
namespace Go.Proofs.Ytjbebhhoakmceaa
open Go.RowKit Go.Sort
set_option linter.unusedSimpArgs false
set_option linter.unusedVariables false

theorem delF_cons (kk : Nat) (l : List (List Vl)) (ks : List Vl) (j : Nat) (hj : j < ks.length) :
    delF kk l (ks.drop j) = if isAt kk l ks[j] = true then delF kk (l.eraseIdx (pos kk l ks[j])) (ks.drop (j + 1)) else (71, l) := by
  rw [List.drop_eq_getElem_cons hj, delF]

set_option maxRecDepth 100000 in
set_option maxHeartbeats 4000000 in
theorem wdelete_any (m : ByteArray) (cA iA : Option Addr) (cn cc ic in_ kk : Nat) (w0 w : World) (b : Nat) (lv : Value) (cs : List Value) (l : List (List Vl)) (M : Option Addr) (mn mc : Nat) (ks : List Vl)
    (hW : Way m cA cn cc kk iA in_ ic w0 w b lv cs l) (hl : mn = ks.length) (hr : RdL w0 M ks) (hmn : ks.length ≤ 9223372036854775807) (hn : l.length ≤ 256) (hk : ∀ r ∈ l, kk < r.length) (hs : Srt kk l) :
    Calls Try.prog 24 #[.pointer (some ⟨b, 0, none⟩), .slice M mn mc] w (WayPost m cA cn cc kk iA in_ ic w0 b (delF kk l ks)) := by
  subst hl
  have HW0 := Lib.hid hW
  have HR := Lib.hid hr
  have HS := Lib.hid hs
  have HFI := Lib.hid hk
  clear hW hr hs hk
  go_enter Try.func24, Try.ntmps24
  go_wp2
  go_loopw [6, 7, 8, 11] (fun _ _ _ i wr => ∃ (j : Nat) (lv' : Value) (cs' : List Value) (l' : List (List Vl)), i = .int .i64 j ∧ j ≤ ks.length ∧ Way m cA cn cc kk iA in_ ic w0 wr b lv' cs' l' ∧ delF kk l ks = delF kk l' (ks.drop j) ∧ Srt kk l' ∧ (∀ r ∈ l', kk < r.length) ∧ l'.length ≤ 256) (fun _ _ _ i _ => ks.length - (intOf i).toNat)
  case atStart => exact ⟨0, lv, cs, l, rfl, by omega, HW0.out, rfl, HS.out, HFI.out, hn⟩
  case round =>
    clear HW0 HS HFI hn
    obtain ⟨j, lv', cs', l', rfl, hj, hW, hI, hS, hF, hn⟩ := hrel
    have HW := Lib.hid hW
    have HI := Lib.hid hI
    have HS := Lib.hid hS
    have HF := Lib.hid hF
    have HNL := Lib.hid hn
    clear hI hS hF hn
    obtain ⟨lA, lc, elv, hrd⟩ := hW.rd
    have HRD := Lib.hid hrd
    subst elv
    clear hW hrd
    by_cases hlt : j < ks.length
    · obtain ⟨ad, rfl, q0, q1, q2⟩ := (HR.out.below HW.out.below).at_ hlt
      have hq0 := cell_lt q0
      have HIN := Lib.hid (HI.out.trans (delF_cons kk l' ks j hlt))
      have hjl : (j : Int) < (ks.length : Int) := by omega
      generalize ks[j] = K at q0 q1 q2 HIN
      go_upto_region 4 with (fail)
      have hWA := HW.out.grown (below1 wr (.cells #[.int .i64 K.k, .int .i64 K.n, .string K.s] 39))
      have hV := (Row.new wr K 39 wr.heap.size rfl).one
      have HRD1 := Lib.hid (HRD.out.below (below1 wr (.cells #[.int .i64 K.k, .int .i64 K.n, .string K.s] 39)))
      clear q0 q1 q2 hq0
      generalize wr.alloc (.cells #[.int .i64 K.k, .int .i64 K.n, .string K.s] 39) = W at hWA hV HRD1 ⊢
      have HWA := Lib.hid hWA
      clear hWA
      obtain ⟨v0, v1, v2, _, _, _⟩ := hV
      obtain ⟨x0, x1, x2, x3, x4⟩ := HWA.out.box
      have hfa := fun W2 (hb : Below W.heap.size W W2) => wfind_any m cA iA cn cc ic in_ kk lA l'.length lc l' K W2 rfl (HRD1.out.below hb) HF.out HNL.out HS.out
      have hat : isAt kk l' K = true → pos kk l' K < l'.length := fun h => (at_mem h).1
      have hS0 := HS.out
      have hse : Srt kk (l'.eraseIdx (pos kk l' K)) := hS0.sublist (List.eraseIdx_sublist _ _)
      have HSE := Lib.hid hse
      clear hS0 hse
      generalize pos kk l' K = P at hfa hat HIN HSE
      generalize isAt kk l' K = AT at hfa hat HIN
      have HAT := Lib.hid hat
      have HFA := Lib.hid hfa
      clear hat hfa
      have y0 := cell_regrown x0
      have y1 := cell_regrown x1
      have y2 := cell_regrown x2
      have y3 := cell_regrown x3
      have y4 := cell_regrown x4
      have u0 := cell_regrown v0
      have u1 := cell_regrown v1
      have u2 := cell_regrown v2
      clear x0 x1 x2 x3 x4 v0 v1 v2
      refine wp_region_quiet_below (by kernel_rfl) (by kernel_rfl) ?_
      repeat (go_big_quiet_step (with_reducible exact Calls.regrown_of (HFA.out _ (below_regrown _ _ _))))
      refine wpQuiet_nil ?_
      intro w5 hw5
      obtain ⟨pp, rfl⟩ := hw5
      have HB5 := Lib.hid (below_regrown W pp.d pp.os)
      clear y0 y1 y2 y3 y4 u0 u1 u2 HFA
      generalize grow (redrawn W pp.d) pp.os = W5 at HB5 ⊢
      have HW5 := Lib.hid (HWA.out.grown HB5.out)
      cases AT
      · have HIN2 : Hid (delF kk l ks = (71, l')) := Lib.hid (by rw [HIN.out, if_neg (by simp)])
        clear HIN
        go_wp2
        go_ret
        refine ⟨ret_int (by rw [HIN2.out]), HW5.out.below, fun h => ?_⟩
        rw [HIN2.out] at h
        exact absurd (show (71 : Int) = 0 from h) (by decide)
      · have HIN2 : Hid (delF kk l ks = delF kk (l'.eraseIdx P) (ks.drop (j + 1))) := Lib.hid (by rw [HIN.out, if_pos rfl])
        have hPl : P < l'.length := HAT.out (by first | rfl | trivial)
        have hP256 : (P : Int) < 256 := by have := HNL.out; omega
        clear HIN
        obtain ⟨x0, x1, x2, x3, x4⟩ := HW5.out.box
        have hbl5 := HW5.out.lt
        have hdel := delete_own w0.heap.size P (.slice lA l'.length lc) cs' W5 HW5.out.own (by rw [HW5.out.len]; exact hPl) (by rw [HW5.out.len]; exact HNL.out) HW5.out.one
        have HDEL := Lib.hid hdel
        clear hdel
        go_wp2_with (go_at_call 35; refine HDEL.out.mono ?_; rintro e w6 ⟨v', rfl, ho, hov, hg⟩; obtain ⟨A6, n6, c6, rfl⟩ := own_form ho; have hb6 := HW5.out.kept hg; have z4 := cell_of_row w6 b 4 _ _ (0, 0) hb6; have f4 := frozen_of_row w6 b 4 _ _ hb6; simp at z4; have HO6 := Lib.hid ho; have HG6 := Lib.hid hg; clear ho hg hb6 hov)
        have hrows := erase_rows (i := P) HW5.out.len HW5.out.rows
        have HWZ := Lib.hid (HW5.out.put HG6.out HO6.out hrows.1 hrows.2)
        have HFZ : Hid (∀ x ∈ l'.eraseIdx P, kk < x.length) := Lib.hid (fun x hx => HF.out x (List.mem_of_mem_eraseIdx hx))
        clear hrows
        go_roundw
        case rel => exact ⟨j + 1, .slice A6 n6 c6, _, _, by go_num, hlt, HWZ.out, HIN2.out, HSE.out, HFZ.out, by rw [List.length_eraseIdx]; have := HNL.out; split <;> omega⟩
        case measure => simp [intOf]; omega
    · have HIN2 : Hid (delF kk l ks = (0, l')) := Lib.hid (by rw [HI.out, List.drop_of_length_le (by omega), delF])
      go_wp2
      go_ret
      refine ⟨ret_int (by rw [HIN2.out]), HW.out.below, fun h => ?_⟩
      rw [HIN2.out]
      exact ⟨_, _, HW.out⟩
end Go.Proofs.Ytjbebhhoakmceaa
