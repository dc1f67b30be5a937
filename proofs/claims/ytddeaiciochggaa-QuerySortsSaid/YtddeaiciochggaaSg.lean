/- slices.symMergeCmpFunc over a list of lists in memory of the call's own, where the right part is a single one: the walk. Conditions: a comparison that orders, like ones left as they are; parts in order. -/
import Derived.Test.YtddeaiciochggaaSf
namespace Go.Proofs.Ytddeaiciochggaa.So
open Go.RowKit Go.Sort
set_option linter.unusedSimpArgs false
set_option linter.unusedVariables false

def Sw2 {α : Type} (g : Nat) (w0 : World) (f : α → Sl) (P S : List (α × Nat)) (x : α × Nat) (A : List (α × Nat)) (a k0 : Nat) (k : Value) (wr : World) : Prop :=
  ∃ t : Nat, k = .int .i64 (a + t : Nat) ∧ k0 ≤ t ∧ t ≤ A.length ∧ Dt wr g (dt f (P ++ (A.take t ++ x :: A.drop t) ++ S)) ∧ Gr g w0 wr
set_option maxRecDepth 100000 in
set_option maxHeartbeats 8000000 in
theorem merge_right {α : Type} (f : α → Sl) (cm : α → α → Int) (ok : α → Prop) (hw : Wk (ltc cm)) (g a m b c N : Nat) (P A : List (α × Nat)) (x : α × Nat) (S : List (α × Nat)) (q : Value) (w0 w : World) (h : Mrg cm ok f g w0 w P A [x] S a m b N q) (hA1 : A.length ≠ 1) :
    Calls Try.prog 102 #[.slice (some ⟨g, 0, none⟩) N c, .int .i64 a, .int .i64 m, .int .i64 b, .func (.func 63) #[] #[q]] w (MrgPost (ltc cm) f g w0 P A [x] S) := by
  have hbN := h.le
  have hbig := h.big
  have H := Lib.hid h
  have hmb : b = m + 1 := h.hb
  have ham : a < m := by have := h.hm; have := h.a0; omega
  have hm' : a + A.length = m := h.hm.symm
  have HAL := Lib.hid hm'
  have HMO := Lib.hid (mono_bel hw x a h.sa)
  have h1 : ¬ ((m : Int) - (a : Int) = 1) := by omega
  have h1' : ((m : Int) - (a : Int) == 1) = false := by simpa using h1
  clear h hm'
  subst hmb
  have h2 : (m : Int) + 1 - (m : Int) = 1 := by omega
  go_enter Try.func102, Try.ntmps102
  go_wp2
  go_loopw [14, 15] (fun i j wr => Se1 (ltc cm) g w0 f (P ++ A ++ [x] ++ S) x A a i j wr) (fun i j _ => (intOf j).toNat - (intOf i).toNat)
  case atStart => exact ⟨a, m, rfl, rfl, by rw [← HAL.out]; exact Bs.start _ (by omega), H.out.dat, H.out.gr⟩
  case round =>
    obtain ⟨i, j, rfl, rfl, hbs, hD, hG⟩ := hrel
    have HBS := Lib.hid hbs
    have HD := Lib.hid hD
    have HG := Lib.hid hG
    have hij := hbs.le
    have him := hbs.lo
    have hjb := hbs.hi
    rw [HAL.out] at hjb
    clear hbs hD hG
    by_cases hlt : i < j
    · go_upto_region 17 with fail
      rw [show ((i : Int) + (j : Int)) / 2 = (((i + j) / 2 : Nat) : Int) by omega]
      obtain ⟨k, hk⟩ : ∃ k, k = (i + j) / 2 := ⟨_, rfl⟩
      have hk1 : i ≤ k := by omega
      have hk2 : k < j := by omega
      rw [← hk]
      clear hk
      have hkB : k - a < A.length := by have := HAL.out; omega
      have hyB := List.getElem_mem hkB
      have hy0 := List.getElem?_eq_getElem hkB
      have e1 := (at_A (P := P) (A := A) (B := [x]) (S := S) (a := a) (h := k) H.out.ha (by omega) (by omega)).trans hy0
      have e2 := (at_B (P := P) (A := A) (B := [x]) (S := S) (m := m) (h := m) (by have := H.out.ha; have := H.out.hm; omega) (by omega) (by simp)).trans (by simp : [x][m - m]? = some x)
      have p1 := cell_regrown (HD.out.cell e1)
      have p2 := cell_regrown (HD.out.cell e2)
      have hty : A[k - a].2 < x.2 := H.out.lo _ hyB x (by simp)
      have HCM := Lib.hid (H.out.cmp.at_ HG.out (H.out.okB x (by simp)) (H.out.okA _ hyB))
      have HY := Lib.hid hy0
      clear e1 e2 hy0 hyB
      generalize A[k - a] = y at p1 hty HCM HY
      have l1 : (k : Int) < (N : Int) := by omega
      have l2 : (m : Int) < (N : Int) := by omega
      have w1 : IntKind.i64.wrap (k : Int) = (k : Int) := by rw [IntKind.wrap_i64]; omega
      have w2 : IntKind.i64.wrap (m : Int) = (m : Int) := by rw [IntKind.wrap_i64]; omega
      by_cases hlt0 : cm x.1 y.1 < 0
      · have hd1 : decide (cm x.1 y.1 < 0) = true := decide_eq_true hlt0
        have HBE : Hid (¬ bel (ltc cm) x A a k) := Lib.hid fun ⟨z, hz, hr⟩ => by
          rw [HY.out] at hz
          injection hz with hz
          subst hz
          have := Rt.no hr
          unfold ltc at this
          exact of_decide_eq_false this hlt0
        refine wp_region_quiet_below (by kernel_rfl) (by kernel_rfl) ?_
        repeat (go_big_quiet_step ((with_reducible exact Calls.regrown_of (HCM.out _ _))))
        refine wpQuiet_nil ?_
        intro w5 hw5
        obtain ⟨pp, rfl⟩ := hw5
        have HB5 := Lib.hid (below_regrown wr pp.d pp.os)
        have HD4 := Lib.hid (HD.out.below HB5.out)
        have HG4 := Lib.hid (HG.out.below HB5.out)
        clear p1 p2 HCM w1 w2
        generalize grow (redrawn wr pp.d) pp.os = W5 at HD4 HG4 ⊢
        go_wp2
        go_roundw
        case rel => exact ⟨i, k, rfl, rfl, HBS.out.down HMO.out hk1 hk2 HBE.out, HD4.out, HG4.out⟩
        case measure => simp [intOf]; omega
      · have hd1 : decide (cm x.1 y.1 < 0) = false := decide_eq_false hlt0
        have HBE : Hid (bel (ltc cm) x A a k) := Lib.hid ⟨y, HY.out, Rt.up hty (by unfold ltc; exact decide_eq_false hlt0)⟩
        refine wp_region_quiet_below (by kernel_rfl) (by kernel_rfl) ?_
        repeat (go_big_quiet_step ((with_reducible exact Calls.regrown_of (HCM.out _ _))))
        refine wpQuiet_nil ?_
        intro w5 hw5
        obtain ⟨pp, rfl⟩ := hw5
        have HB5 := Lib.hid (below_regrown wr pp.d pp.os)
        have HD4 := Lib.hid (HD.out.below HB5.out)
        have HG4 := Lib.hid (HG.out.below HB5.out)
        clear p1 p2 HCM w1 w2
        generalize grow (redrawn wr pp.d) pp.os = W5 at HD4 HG4 ⊢
        go_wp2
        go_roundw
        case rel => exact ⟨k + 1, j, by go_num, rfl, HBS.out.up HMO.out hk1 hk2 HBE.out, HD4.out, HG4.out⟩
        case measure => simp [intOf]; omega
    · obtain rfl : i = j := by omega
      obtain ⟨k0, hk0⟩ : ∃ k0, i = a + k0 := ⟨i - a, by omega⟩
      subst hk0
      have HSR := Lib.hid (put_bel hw H.out.sa (fun y hy e => by have := H.out.lo y hy x (by simp); omega) HBS.out)
      have hkl : k0 ≤ A.length := by have := HAL.out; omega
      have hD := HD.out
      have e0 : P ++ A ++ [x] ++ S = P ++ (A.take A.length ++ x :: A.drop A.length) ++ S := by simp
      rw [e0] at hD
      have HD1 := Lib.hid hD
      clear hD e0 HBS HD
      go_wp2_with fail
      go_loopw [17] (fun k wr => Sw2 g w0 f P S x A a k0 k wr) (fun k _ => (intOf k).toNat)
      case atStart => exact ⟨A.length, by rw [HAL.out], hkl, Nat.le_refl _, HD1.out, HG.out⟩
      case round =>
        obtain ⟨t, rfl, ht, htl, hD, hG⟩ := hrel
        have HG2 := Lib.hid hG
        by_cases hlt : k0 < t
        · obtain ⟨u, rfl⟩ : ∃ u, t = u + 1 := ⟨t - 1, by omega⟩
          have htB : u < A.length := by omega
          have e0 : dt f (P ++ (A.take (u + 1) ++ x :: A.drop (u + 1)) ++ S) = dt f (P ++ A.take u) ++ f A[u].1 :: ([] ++ f x.1 :: dt f (A.drop (u + 1) ++ S)) := by
            have e1 := List.take_succ_eq_append_getElem htB
            rw [e1]; simp only [dt_append, dt_cons, List.append_assoc, List.cons_append, List.nil_append]
          rw [e0] at hD
          have hn : dt f (P ++ A.take u) ++ f x.1 :: ([] ++ f A[u].1 :: dt f (A.drop (u + 1) ++ S)) = dt f (P ++ (A.take u ++ x :: A.drop u) ++ S) := by
            have e1 := List.drop_eq_getElem_cons htB
            rw [e1]; simp only [dt_append, dt_cons, List.append_assoc, List.cons_append, List.nil_append]
          have HNX := Lib.hid hn
          have ht0 : a + u = (dt f (P ++ A.take u)).length := by rw [dt_len]; simp; have := H.out.ha; omega
          have ht1 : a + u + 1 = (dt f (P ++ A.take u)).length + 1 + ([] : List Sl).length := by rw [← ht0]; rfl
          obtain ⟨c1, c2, f1, f2⟩ := hD.two ht0 ht1
          have HD3 := Lib.hid hD
          have HT0 := Lib.hid ht0
          have HT1 := Lib.hid ht1
          have htN : a + u + 1 < N := by have := HAL.out; omega
          clear hD e0 ht0 ht1 hG hn
          generalize A[u] = y at c1 HD3 HNX
          have hgt : (a : Int) + (k0 : Int) < ((a + u : Nat) : Int) + 1 := by omega
          rw [show a + (u + 1) = (a + u) + 1 by omega]
          generalize hT : a + u = s at c1 c2 f1 f2 HT0 HT1 htN hgt ⊢
          have hTT := Lib.hid hT
          clear hT
          have w1 : IntKind.i64.wrap ((s : Int) + 1 - 1) = (s : Int) := by rw [IntKind.wrap_i64]; omega
          have w2 : IntKind.i64.wrap (s : Int) = (s : Int) := by rw [IntKind.wrap_i64]; omega
          have l1 : (s : Int) + 1 < (N : Int) := by omega
          have l2 : (s : Int) < (N : Int) := by omega
          have t1 : ((s : Int) + 1).toNat = s + 1 := by omega
          have n1 : 0 ≤ (s : Int) + 1 := by omega
          go_upto_region 23 with fail
          go_region
          have HDS := Lib.hid ((HD3.out.swap2 HT0.out HT1.out).below (Below.refl _ _).drew)
          rw [HNX.out] at HDS
          have HGS := Lib.hid (((HG2.out.set (s + 1) (.slice (f y.1).A (f y.1).n (f y.1).c)).set s (.slice (f x.1).A (f x.1).n (f x.1).c)).below (Below.refl _ _).drew)
          clear w1 w2 l1 l2 n1 t1 c1 c2 f1 f2 HD3 HG2 HNX
          generalize ((wr.setCell ⟨g, s + 1, none⟩ (.slice (f y.1).A (f y.1).n (f y.1).c)).setCell ⟨g, s, none⟩ (.slice (f x.1).A (f x.1).n (f x.1).c)).drew = w6 at HDS HGS ⊢
          go_wp2
          go_roundw
          case rel => exact ⟨u, by rw [hTT.out], by omega, by omega, HDS.out, HGS.out⟩
          case measure => simp [intOf]
        · obtain rfl : t = k0 := by omega
          have HD3 := Lib.hid hD
          clear hD hG
          go_wp2
          go_end0
          exact ⟨_, rfl, HSR.out, by exact (List.perm_middle.trans (by rw [List.take_append_drop]; exact List.perm_append_comm (l₁ := [x]))), HD3.out, HG2.out⟩
end Go.Proofs.Ytddeaiciochggaa.So
