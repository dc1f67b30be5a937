/- slices.symMergeCmpFunc over a list of lists in memory of the call's own: the walk. Conditions: a comparison that orders, like ones left as they are; parts in order. -/
import Derived.Test.YtddeaiciochggaaSi
namespace Go.Proofs.Ytddeaiciochggaa.So
open Go.RowKit Go.Sort
set_option linter.unusedSimpArgs false
set_option linter.unusedVariables false

/-- What the call does of fewer. -/
def MrgAll {α : Type} (f : α → Sl) (cm : α → α → Int) (ok : α → Prop) (g N c : Nat) (q : Value) (w0 : World) (n : Nat) : Prop :=
  ∀ (a m b : Nat) (ai mi bi : Int) (P A B S : List (α × Nat)) (w : World), A.length + B.length < n → ai = a → mi = m → bi = b → Mrg cm ok f g w0 w P A B S a m b N q →
    Calls Try.prog 102 #[.slice (some ⟨g, 0, none⟩) N c, .int .i64 ai, .int .i64 mi, .int .i64 bi, .func (.func 63) #[] #[q]] w (MrgPost (ltc cm) f g w0 P A B S)
def Se3 {α : Type} (lt : α → α → Bool) (g : Nat) (w0 : World) (f : α → Sl) (D A B : List (α × Nat)) (a mid s0 r0 : Nat) (i j : Value) (wr : World) : Prop :=
  ∃ i' j' : Nat, i = .int .i64 i' ∧ j = .int .i64 j' ∧ Bs (par lt A B a mid) s0 r0 i' j' ∧ Dt wr g (dt f D) ∧ Gr g w0 wr
theorem Mrg.sub {α : Type} {cm : α → α → Int} {ok : α → Prop} {f : α → Sl} {g : Nat} {w0 w : World} {P A B S : List (α × Nat)} {a m b N : Nat} {q : Value} (h : Mrg cm ok f g w0 w P A B S a m b N q) {w' : World} {P' A' B' S' : List (α × Nat)} {a' m' b' : Nat}
    (hd : Dt w' g (dt f (P' ++ A' ++ B' ++ S'))) (hg : Gr g w0 w') (ha : a' = P'.length) (hm : m' = a' + A'.length) (hb : b' = m' + B'.length) (a0 : 0 < A'.length) (b0 : 0 < B'.length) (sa : Srt (ltc cm) A') (sb : Srt (ltc cm) B') (hA : ∀ x ∈ A', x ∈ A) (hB : ∀ x ∈ B', x ∈ B)
    (hN : (P' ++ A' ++ B' ++ S').length = (P ++ A ++ B ++ S).length) : Mrg cm ok f g w0 w' P' A' B' S' a' m' b' N q :=
  ⟨h.cmp, hd, hg, ha, hm, hb, a0, b0, sa, sb, h.lo.sub hA hB, fun x hx => h.okA x (hA x hx), fun x hx => h.okB x (hB x hx), by rw [hN]; exact h.hN, h.big⟩
/-- The left half, in order. -/
def Lft {α : Type} (lt : α → α → Bool) (g : Nat) (w0 : World) (f : α → Sl) (P A1 B1 R : List (α × Nat)) (wx : World) : Prop :=
  ∃ C, Srt lt C ∧ C.Perm (A1 ++ B1) ∧ Dt wx g (dt f (P ++ C ++ R)) ∧ Gr g w0 wx
set_option maxRecDepth 100000 in
set_option maxHeartbeats 16000000 in
theorem merge_both {α : Type} (f : α → Sl) (cm : α → α → Int) (ok : α → Prop) (hw : Wk (ltc cm)) (g a m b c N : Nat) (P A B S : List (α × Nat)) (q : Value) (w0 w : World) (h : Mrg cm ok f g w0 w P A B S a m b N q) (hA1 : A.length ≠ 1) (hB1 : B.length ≠ 1) (hIH : MrgAll f cm ok g N c q w0 (A.length + B.length)) :
    Calls Try.prog 102 #[.slice (some ⟨g, 0, none⟩) N c, .int .i64 a, .int .i64 m, .int .i64 b, .func (.func 63) #[] #[q]] w (MrgPost (ltc cm) f g w0 P A B S) := by
  have hbN := h.le
  have hbig := h.big
  have H := Lib.hid h
  have HIH := Lib.hid hIH
  have hmb : m < b := by have := h.hb; have := h.b0; omega
  have ham : a < m := by have := h.hm; have := h.a0; omega
  have hm' : a + A.length = m := h.hm.symm
  have hb' : m + B.length = b := h.hb.symm
  have HAL := Lib.hid hm'
  have HBL := Lib.hid hb'
  have h1 : ¬ ((m : Int) - (a : Int) = 1) := by omega
  have h2 : ¬ ((b : Int) - (m : Int) = 1) := by omega
  obtain ⟨mid, hmid⟩ : ∃ mid, mid = (a + b) / 2 := ⟨_, rfl⟩
  obtain ⟨s0, hs0⟩ : ∃ s0, s0 = if mid < m then mid + m - b else a := ⟨_, rfl⟩
  obtain ⟨r0, hr0⟩ : ∃ r0, r0 = if mid < m then mid else m := ⟨_, rfl⟩
  have hRg : Rg a m b mid s0 r0 := ⟨hmid, ham, hmb, hs0, hr0⟩
  obtain ⟨f1, f2, f3, f4, f5, f6, f7, _⟩ := hRg.facts
  have HRG := Lib.hid hRg
  have HMO := Lib.hid (mono_par hw hRg hm' hb' h.sa h.sb)
  have HMID := Lib.hid hmid
  have HS0 := Lib.hid hs0
  have HR0 := Lib.hid hr0
  clear h hm' hb' hIH hmid hs0 hr0 hRg
  go_enter Try.func102, Try.ntmps102
  go_upto_region 25 with fail
  rw [show ((a : Int) + (b : Int)) / 2 = ((mid : Nat) : Int) by have := HMID.out; omega]
  obtain ⟨nn, hnn⟩ : ∃ nn, nn = mid + m := ⟨_, rfl⟩
  go_upto_region 26 with fail
  rw [show ((mid : Int) + (m : Int)) = ((nn : Nat) : Int) by omega]
  have HNN := Lib.hid hnn
  clear hnn
  go_upto_if 140 with fail
  go_cut [20, 21] (fun x y wx => x = .int .i64 s0 ∧ y = .int .i64 r0 ∧ wx = w)
  case first =>
    by_cases hc : mid < m
    · have e1 : (nn : Int) - (b : Int) = (s0 : Int) := by have := HS0.out; rw [if_pos hc] at this; have := HNN.out; have := HMID.out; omega
      have e2 : r0 = mid := by have := HR0.out; rw [if_pos hc] at this; exact this
      have E1 := Lib.hid e1
      have E2 := Lib.hid e2
      have hcI : (mid : Int) < (m : Int) := by omega
      have w1 : (b : Int) ≤ (nn : Int) := by have := HNN.out; have := HMID.out; omega
      have w2 : (nn : Int) ≤ 281474976710656 := by have := HNN.out; omega
      clear e1 e2
      go_wp2
      go_meet
      exact ⟨by rw [E1.out], by rw [E2.out], rfl⟩
    · have e1 : s0 = a := by have := HS0.out; rw [if_neg hc] at this; exact this
      have e2 : r0 = m := by have := HR0.out; rw [if_neg hc] at this; exact this
      have E1 := Lib.hid e1
      have E2 := Lib.hid e2
      have hcI : ¬ (mid : Int) < (m : Int) := by omega
      clear e1 e2
      go_wp2
      go_meet
      exact ⟨by rw [E1.out], by rw [E2.out], rfl⟩
  case rest =>
    obtain ⟨rfl, rfl, rfl⟩ := hcut
    obtain ⟨p, hp⟩ : ∃ p, p + 1 = nn := ⟨nn - 1, by have := HNN.out; omega⟩
    have HP := Lib.hid hp
    have hnp : (nn : Int) - 1 = (p : Int) := by omega
    have hnb : (nn : Int) ≤ 281474976710656 := by have := HNN.out; omega
    clear hp
    go_upto_region 33 with fail
    clear hnp
    go_loopw [20, 21] (fun i j wr => Se3 (ltc cm) g w0 f (P ++ A ++ B ++ S) A B a mid s0 r0 i j wr) (fun i j _ => (intOf j).toNat - (intOf i).toNat)
    case atStart => exact ⟨s0, r0, rfl, rfl, Bs.start _ f2, H.out.dat, H.out.gr⟩
    case round =>
      obtain ⟨i, j, rfl, rfl, hbs, hD, hG⟩ := hrel
      have HBS := Lib.hid hbs
      have HD := Lib.hid hD
      have HG := Lib.hid hG
      have hij := hbs.le
      have him := hbs.lo
      have hjb := hbs.hi
      clear hbs hD hG
      by_cases hlt : i < j
      · go_upto_region 35 with fail
        rw [show ((i : Int) + (j : Int)) / 2 = (((i + j) / 2 : Nat) : Int) by omega]
        obtain ⟨k, hk⟩ : ∃ k, k = (i + j) / 2 := ⟨_, rfl⟩
        have hk1 : i ≤ k := by omega
        have hk2 : k < j := by omega
        rw [← hk]
        clear hk
        have hkA : k - a < A.length := by have := HAL.out; omega
        have hkB : mid - 1 - k < B.length := by have := HBL.out; omega
        obtain ⟨pc, hpc⟩ : ∃ pc, pc + k = p := ⟨p - k, by have := HP.out; have := HNN.out; omega⟩
        have hpm : m ≤ pc ∧ pc < m + B.length ∧ pc - m = mid - 1 - k := by have := HP.out; have := HNN.out; have := HBL.out; omega
        have hyA := List.getElem_mem hkA
        have hyB := List.getElem_mem hkB
        have hu := List.getElem?_eq_getElem hkA
        have hv := List.getElem?_eq_getElem hkB
        have e1 := (at_A (P := P) (A := A) (B := B) (S := S) (a := a) (h := k) H.out.ha (by omega) (by omega)).trans hu
        have e2 := (at_B (P := P) (A := A) (B := B) (S := S) (m := m) (h := pc) (by have := H.out.ha; have := H.out.hm; omega) hpm.1 hpm.2.1).trans ((congrArg (fun z => B[z]?) hpm.2.2).trans hv)
        have p1 := cell_regrown (HD.out.cell e1)
        have p2 := cell_regrown (HD.out.cell e2)
        have hty : A[k - a].2 < B[mid - 1 - k].2 := H.out.lo _ hyA _ hyB
        have HCM := Lib.hid (H.out.cmp.at_ HG.out (H.out.okB _ hyB) (H.out.okA _ hyA))
        have HU := Lib.hid hu
        have HV := Lib.hid hv
        clear e1 e2 hu hv hyA hyB
        generalize A[k - a] = u at p1 hty HCM HU
        generalize B[mid - 1 - k] = v at p2 hty HCM HV
        have hpk : (p : Int) - (k : Int) = (pc : Int) := by omega
        have l1 : (k : Int) < (N : Int) := by omega
        have l2 : (pc : Int) < (N : Int) := by have := HBL.out; omega
        have w1 : IntKind.i64.wrap (k : Int) = (k : Int) := by rw [IntKind.wrap_i64]; omega
        have w2 : IntKind.i64.wrap (pc : Int) = (pc : Int) := by rw [IntKind.wrap_i64]; omega
        clear hpm hpc
        by_cases hlt0 : cm v.1 u.1 < 0
        · have hd1 : decide (cm v.1 u.1 < 0) = true := decide_eq_true hlt0
          have HBE : Hid (¬ par (ltc cm) A B a mid k) := Lib.hid fun ⟨u', v', hu, hv, hr⟩ => by
            rw [HU.out] at hu
            rw [HV.out] at hv
            injection hu with hu
            injection hv with hv
            subst hu hv
            have := Rt.no hr
            unfold ltc at this
            exact of_decide_eq_false this hlt0
          refine wp_region_quiet_below (by kernel_rfl) (by kernel_rfl) ?_
          repeat (go_big_quiet_step ((with_reducible exact Calls.regrown_of (HCM.out _ _))))
          refine wpQuiet_nil ?_
          intro w5 hw5
          obtain ⟨pp, rfl⟩ := hw5
          have HB5 := Lib.hid (below_regrown wr pp.d pp.os)
          have HD4 := Lib.hid (HD.out.below HB5.out)
          have HG4 := Lib.hid (HG.out.below HB5.out)
          clear p1 p2 HCM w1 w2
          generalize grow (redrawn wr pp.d) pp.os = W5 at HD4 HG4 ⊢
          go_wp2
          go_roundw
          case rel => exact ⟨i, k, rfl, rfl, HBS.out.down HMO.out hk1 hk2 HBE.out, HD4.out, HG4.out⟩
          case measure => simp [intOf]; omega
        · have hd1 : decide (cm v.1 u.1 < 0) = false := decide_eq_false hlt0
          have HBE : Hid (par (ltc cm) A B a mid k) := Lib.hid ⟨u, v, HU.out, HV.out, Rt.up hty (by unfold ltc; exact decide_eq_false hlt0)⟩
          refine wp_region_quiet_below (by kernel_rfl) (by kernel_rfl) ?_
          repeat (go_big_quiet_step ((with_reducible exact Calls.regrown_of (HCM.out _ _))))
          refine wpQuiet_nil ?_
          intro w5 hw5
          obtain ⟨pp, rfl⟩ := hw5
          have HB5 := Lib.hid (below_regrown wr pp.d pp.os)
          have HD4 := Lib.hid (HD.out.below HB5.out)
          have HG4 := Lib.hid (HG.out.below HB5.out)
          clear p1 p2 HCM w1 w2
          generalize grow (redrawn wr pp.d) pp.os = W5 at HD4 HG4 ⊢
          go_wp2
          go_roundw
          case rel => exact ⟨k + 1, j, by go_num, rfl, HBS.out.up HMO.out hk1 hk2 HBE.out, HD4.out, HG4.out⟩
          case measure => simp [intOf]; omega
      · obtain rfl : i = j := by omega
        obtain ⟨hka, hqb, hcut⟩ := cut_par hw HRG.out HAL.out HBL.out H.out.sa H.out.sb H.out.lo HBS.out
        have HCU := Lib.hid hcut
        obtain ⟨en, hen⟩ : ∃ en, en + i = nn := ⟨nn - i, by have := HNN.out; omega⟩
        have hne : (nn : Int) - (i : Int) = (en : Int) := by omega
        have HEN : Hid (en = m + (mid - i)) := Lib.hid (by have := HNN.out; omega)
        have HSP : Hid (P ++ A ++ B ++ S = P ++ A.take (i - a) ++ A.drop (i - a) ++ B.take (mid - i) ++ (B.drop (mid - i) ++ S)) := Lib.hid (by
          rw [List.append_assoc P (A.take _), List.take_append_drop, ← List.append_assoc _ (B.drop _), List.append_assoc (P ++ A) (B.take _), List.take_append_drop])
        clear hcut hen HBS
        obtain ⟨A1, hA1⟩ : ∃ A1, A1 = A.take (i - a) := ⟨_, rfl⟩
        obtain ⟨A2, hA2⟩ : ∃ A2, A2 = A.drop (i - a) := ⟨_, rfl⟩
        obtain ⟨B1, hB1⟩ : ∃ B1, B1 = B.take (mid - i) := ⟨_, rfl⟩
        obtain ⟨B2, hB2⟩ : ∃ B2, B2 = B.drop (mid - i) := ⟨_, rfl⟩
        have HA1 := Lib.hid hA1
        have HA2 := Lib.hid hA2
        have HB1 := Lib.hid hB1
        have HB2 := Lib.hid hB2
        rw [← hA1, ← hA2, ← hB1, ← hB2] at HSP
        have LA1 : Hid (a + A1.length = i) := Lib.hid (by rw [hA1, List.length_take]; omega)
        have LA2 : Hid (i + A2.length = m) := Lib.hid (by rw [hA2, List.length_drop]; have := HAL.out; omega)
        have LB1 : Hid (m + B1.length = en) := Lib.hid (by rw [hB1, List.length_take]; have := HEN.out; omega)
        have LB2 : Hid (en + B2.length = b) := Lib.hid (by rw [hB2, List.length_drop]; have := HEN.out; have := HBL.out; omega)
        have LMID : Hid (i + B1.length = mid) := Lib.hid (by rw [hB1, List.length_take]; omega)
        have LMI2 : Hid (mid + A2.length = en) := Lib.hid (by have := HEN.out; have := LA2.out; have := LMID.out; have := LB1.out; omega)
        clear hA1 hA2 hB1 hB2
        have hiN : i ≤ N := by omega
        have henN : en ≤ N := by have := LB2.out; omega
        go_upto_region 38 with fail
        go_cut [24] (fun x wx => x = .int .i64 en ∧ wx = wr)
        case first =>
          go_wp2
          go_meet
          exact ⟨rfl, rfl⟩
        case rest =>
          obtain ⟨rfl, rfl⟩ := hcut
          rename_i KK hKK
          refine hKK _ _ ?_
          apply wp_seq_k
          intro K0 hK0
          go_cut [] (fun wx => Dt wx g (dt f (P ++ A1 ++ B1 ++ (A2 ++ B2 ++ S))) ∧ Gr g w0 wx)
          case first =>
            have hD := HD.out
            rw [HSP.out] at hD
            have HD1 := Lib.hid hD
            clear hD
            by_cases hr : i < m ∧ m < en
            · obtain ⟨r1, r2⟩ := hr
              have r1' : (i : Int) < (m : Int) := by omega
              have r2' : (m : Int) < (en : Int) := by omega
              have HLN : Hid (N = (dt f (P ++ A1 ++ B1 ++ A2 ++ (B2 ++ S))).length) := Lib.hid (by rw [dt_len, H.out.hN, HSP.out]; simp; omega)
              have a0 : 0 < (dt f A2).length := by rw [dt_len]; have := LA2.out; omega
              have b0 : 0 < (dt f B1).length := by rw [dt_len]; have := LB1.out; omega
              have HRO := Lib.hid (rotate_any g i m en c N (dt f (P ++ A1)) (dt f A2) (dt f B1) (dt f (B2 ++ S)) _ (dt f (P ++ A1 ++ B1 ++ A2 ++ (B2 ++ S))) (.func (.func 63) #[] #[q]) w0 wc HD1.out HG.out (by simp only [dt_append]) (by simp only [dt_append]) (by rw [dt_len]; have := LA1.out; have := H.out.ha; simp; omega) (by rw [dt_len]; have := LA2.out; omega) (by rw [dt_len]; have := LB1.out; omega) a0 b0 HLN.out hbig)
              clear a0 b0
              go_wp2_with (go_at_call 110; (with_reducible refine HRO.out.mono ?_); rintro e w2 ⟨rfl, hd, hg⟩; have HD3 := Lib.hid hd; have HG3 := Lib.hid hg; clear hd hg)
              go_meet
              exact ⟨by have := HD3.out; simpa only [List.append_assoc] using this, HG3.out⟩
            · have he : A2 ++ B1 = B1 ++ A2 := by
                by_cases e1 : i < m
                · have : B1 = [] := List.eq_nil_of_length_eq_zero (by have := LB1.out; omega)
                  rw [this]; simp
                · have : A2 = [] := List.eq_nil_of_length_eq_zero (by have := LA2.out; omega)
                  rw [this]; simp
              have HE := Lib.hid he
              have hmi : (i : Int) ≤ (m : Int) := by omega
              clear he
              by_cases r1 : i < m
              all_goals
                have r1' : decide ((i : Int) < (m : Int)) = decide (i < m) := by rw [decide_eq_decide]; omega
                have r2' : decide ((m : Int) < (en : Int)) = decide (m < en) := by rw [decide_eq_decide]; omega
                go_wp2_with fail
                go_meet
                exact ⟨by
                  have h := HD1.out
                  have e : P ++ A1 ++ A2 ++ B1 ++ (B2 ++ S) = P ++ A1 ++ B1 ++ (A2 ++ B2 ++ S) := by
                    rw [List.append_assoc (P ++ A1) A2 B1, HE.out]; simp only [List.append_assoc]
                  rw [e] at h
                  exact h, HG.out⟩
          case rest =>
            obtain ⟨hD3, hG3⟩ := hcut
            have HD3 := Lib.hid hD3
            have HG3 := Lib.hid hG3
            clear hD3 hG3 HD HG
            refine hK0 _ _ ?_
            apply wp_seq_k
            intro K1 hK1
            go_cut [] (fun wx => Lft (ltc cm) g w0 f P A1 B1 (A2 ++ B2 ++ S) wx)
            case first =>
              by_cases hr : a < i ∧ i < mid
              · obtain ⟨r1, r2⟩ := hr
                have r1' : (a : Int) < (i : Int) := by omega
                have r2' : (i : Int) < (mid : Int) := by omega
                have HIL := Lib.hid (HIH.out a i mid a i mid P A1 B1 (A2 ++ B2 ++ S) _ (by have := LMID.out; have := LA1.out; have := LB1.out; have := LA2.out; have := LB2.out; have := HAL.out; have := HBL.out; omega) rfl rfl rfl
                  (H.out.sub HD3.out HG3.out H.out.ha LA1.out.symm LMID.out.symm (by have := LA1.out; omega) (by have := LMID.out; omega) (by rw [HA1.out]; exact H.out.sa.take _) (by rw [HB1.out]; exact H.out.sb.take _) (by rw [HA1.out]; exact fun x hx => List.mem_of_mem_take hx) (by rw [HB1.out]; exact fun x hx => List.mem_of_mem_take hx) (by rw [HSP.out]; simp; omega)))
                go_wp2_with (go_at_call 102; (with_reducible refine HIL.out.mono ?_); rintro e w2 ⟨C1, rfl, hc1, hc2, hd, hg⟩; have HC1 := Lib.hid hc1; have HC2 := Lib.hid hc2; have HD4 := Lib.hid hd; have HG4 := Lib.hid hg; clear hc1 hc2 hd hg)
                go_meet
                exact ⟨C1, HC1.out, HC2.out, HD4.out, HG4.out⟩
              · have he : A1 = [] ∨ B1 = [] := by
                  by_cases e1 : a < i
                  · right; exact List.eq_nil_of_length_eq_zero (by have := LMID.out; omega)
                  · left; exact List.eq_nil_of_length_eq_zero (by have := LA1.out; omega)
                have HE := Lib.hid he
                clear he
                by_cases r1 : a < i
                all_goals
                  have r1' : decide ((a : Int) < (i : Int)) = decide (a < i) := by rw [decide_eq_decide]; omega
                  have r2' : decide ((i : Int) < (mid : Int)) = decide (i < mid) := by rw [decide_eq_decide]; omega
                  go_wp2_with fail
                  go_meet
                  exact ⟨A1 ++ B1, srt_none (by rw [HA1.out]; exact H.out.sa.take _) (by rw [HB1.out]; exact H.out.sb.take _) HE.out, .refl _, by rw [← List.append_assoc P]; exact HD3.out, HG3.out⟩
            case rest =>
              obtain ⟨C1, hc1, hc2, hd, hg⟩ := hcut
              have HC1 := Lib.hid hc1
              have HC2 := Lib.hid hc2
              have HD4 := Lib.hid hd
              have HG4 := Lib.hid hg
              have hlc : a + C1.length = mid := by rw [hc2.length_eq]; simp; have := LA1.out; have := LMID.out; omega
              have HLC := Lib.hid hlc
              clear hc1 hc2 hd hg HD3 HG3 hlc
              refine hK1 _ _ ?_
              by_cases hr : mid < en ∧ en < b
              · obtain ⟨r1, r2⟩ := hr
                have r1' : (mid : Int) < (en : Int) := by omega
                have r2' : (en : Int) < (b : Int) := by omega
                have HIL := Lib.hid (HIH.out mid en b mid en b (P ++ C1) A2 B2 S _ (by have := LA1.out; have := LB1.out; have := LA2.out; have := LB2.out; have := HAL.out; have := HBL.out; have := LMID.out; have := LMI2.out; omega) rfl rfl rfl
                  (H.out.sub (by have := HD4.out; simpa only [List.append_assoc] using this) HG4.out (by have := H.out.ha; have := HLC.out; simp; omega) LMI2.out.symm LB2.out.symm (by have := LMI2.out; omega) (by have := LB2.out; omega) (by rw [HA2.out]; exact H.out.sa.drop _) (by rw [HB2.out]; exact H.out.sb.drop _) (by rw [HA2.out]; exact fun x hx => List.mem_of_mem_drop hx) (by rw [HB2.out]; exact fun x hx => List.mem_of_mem_drop hx) (by rw [HSP.out]; have := HC2.out.length_eq; simp at this; simp; omega)))
                go_wp2_with (go_at_call 102; (with_reducible refine HIL.out.mono ?_); rintro e w2 ⟨C2, rfl, hc1, hc2, hd, hg⟩; have HF1 := Lib.hid hc1; have HF2 := Lib.hid hc2; have HD5 := Lib.hid hd; have HG5 := Lib.hid hg; clear hc1 hc2 hd hg)
                go_end0
                obtain ⟨j1, j2⟩ := cut_join HCU.out HC1.out HF1.out (by rw [← HA1.out, ← HB1.out]; exact HC2.out) (by rw [← HA2.out, ← HB2.out]; exact HF2.out)
                exact ⟨C1 ++ C2, rfl, j1, j2, by have := HD5.out; simpa only [List.append_assoc] using this, HG5.out⟩
              · have he : A2 = [] ∨ B2 = [] := by
                  by_cases e1 : mid < en
                  · right; exact List.eq_nil_of_length_eq_zero (by have := LB2.out; omega)
                  · left; exact List.eq_nil_of_length_eq_zero (by have := LMI2.out; omega)
                have HE := Lib.hid he
                clear he
                by_cases r1 : mid < en
                all_goals
                  have r1' : decide ((mid : Int) < (en : Int)) = decide (mid < en) := by rw [decide_eq_decide]; omega
                  have r2' : decide ((en : Int) < (b : Int)) = decide (en < b) := by rw [decide_eq_decide]; omega
                  go_wp2_with fail
                  go_end0
                  obtain ⟨j1, j2⟩ := cut_join HCU.out HC1.out (srt_none (H.out.sa.drop (i - a)) (H.out.sb.drop (mid - i)) (by rw [← HA2.out, ← HB2.out]; exact HE.out)) (by rw [← HA1.out, ← HB1.out]; exact HC2.out) (.refl _)
                  rw [← HA2.out, ← HB2.out] at j1 j2
                  exact ⟨C1 ++ (A2 ++ B2), rfl, j1, j2, by have := HD4.out; simpa only [List.append_assoc] using this, HG4.out⟩
end Go.Proofs.Ytddeaiciochggaa.So
