/- slices.symMergeCmpFunc over a list of lists in memory of the call's own, where one part is a single one: the walks. Conditions: a comparison that orders, like ones left as they are; parts in order. -/
import Derived.Test.YtddeaiciochggaaSe
namespace Go.Proofs.Ytddeaiciochggaa.So
open Go.RowKit Go.Sort
set_option linter.unusedSimpArgs false
set_option linter.unusedVariables false

def MrgPost {α : Type} (lt : α → α → Bool) (f : α → Sl) (g : Nat) (w0 : World) (P A B S : List (α × Nat)) (e : Ending) (w' : World) : Prop :=
  ∃ C, e = .returned (.tuple #[]) ∧ Srt lt C ∧ C.Perm (A ++ B) ∧ Dt w' g (dt f (P ++ C ++ S)) ∧ Gr g w0 w'
/-- What is handed in to be made one. -/
structure Mrg {α : Type} (cm : α → α → Int) (ok : α → Prop) (f : α → Sl) (g : Nat) (w0 w : World) (P A B S : List (α × Nat)) (a m b N : Nat) (q : Value) : Prop where
  cmp : CmpC g w0 ok f cm q
  dat : Dt w g (dt f (P ++ A ++ B ++ S))
  gr : Gr g w0 w
  ha : a = P.length
  hm : m = a + A.length
  hb : b = m + B.length
  a0 : 0 < A.length
  b0 : 0 < B.length
  sa : Srt (ltc cm) A
  sb : Srt (ltc cm) B
  lo : Lo A B
  okA : ∀ x ∈ A, ok x.1
  okB : ∀ x ∈ B, ok x.1
  hN : N = (P ++ A ++ B ++ S).length
  big : N ≤ 140737488355328
theorem Mrg.le {α : Type} {cm : α → α → Int} {ok : α → Prop} {f : α → Sl} {g : Nat} {w0 w : World} {P A B S : List (α × Nat)} {a m b N : Nat} {q : Value} (h : Mrg cm ok f g w0 w P A B S a m b N q) : b ≤ N := by
  have := h.hN
  have := h.ha
  have := h.hm
  have := h.hb
  simp at *
  omega
theorem at_B {α : Type} {P A B S : List α} {m h : Nat} (hm : m = P.length + A.length) (h1 : m ≤ h) (h2 : h < m + B.length) : (P ++ A ++ B ++ S)[h]? = B[h - m]? := by
  rw [List.getElem?_append_left (by simp; omega), List.getElem?_append_right (by simp; omega)]
  congr 1
  simp
  omega
theorem at_A {α : Type} {P A B S : List α} {a h : Nat} (ha : a = P.length) (h1 : a ≤ h) (h2 : h < a + A.length) : (P ++ A ++ B ++ S)[h]? = A[h - a]? := by
  rw [List.getElem?_append_left (by simp; omega), List.getElem?_append_left (by simp; omega), List.getElem?_append_right (by omega), ha]
theorem Dt.cell {α : Type} {w : World} {g : Nat} {f : α → Sl} {D : List (α × Nat)} (h : Dt w g (dt f D)) {i : Nat} {y : α × Nat} (e : D[i]? = some y) : w.cell? ⟨g, i, none⟩ = some (.slice (f y.1).A (f y.1).n (f y.1).c) :=
  h.cells i (f y.1) (by unfold dt; rw [List.getElem?_map, e]; rfl)
/-- The search for the place of the one on the left. -/
def Se1 {α : Type} (lt : α → α → Bool) (g : Nat) (w0 : World) (f : α → Sl) (D : List (α × Nat)) (x : α × Nat) (B : List (α × Nat)) (m : Nat) (i j : Value) (wr : World) : Prop :=
  ∃ i' j' : Nat, i = .int .i64 i' ∧ j = .int .i64 j' ∧ Bs (bel lt x B m) m (m + B.length) i' j' ∧ Dt wr g (dt f D) ∧ Gr g w0 wr
def Sw1 {α : Type} (g : Nat) (w0 : World) (f : α → Sl) (P S : List (α × Nat)) (x : α × Nat) (B : List (α × Nat)) (a k0 : Nat) (k : Value) (wr : World) : Prop :=
  ∃ t : Nat, k = .int .i64 (a + t : Nat) ∧ t ≤ k0 ∧ Dt wr g (dt f (P ++ (B.take t ++ x :: B.drop t) ++ S)) ∧ Gr g w0 wr
set_option maxRecDepth 100000 in
set_option maxHeartbeats 8000000 in
theorem merge_left {α : Type} (f : α → Sl) (cm : α → α → Int) (ok : α → Prop) (hw : Wk (ltc cm)) (g a m b c N : Nat) (P : List (α × Nat)) (x : α × Nat) (B S : List (α × Nat)) (q : Value) (w0 w : World) (h : Mrg cm ok f g w0 w P [x] B S a m b N q) :
    Calls Try.prog 102 #[.slice (some ⟨g, 0, none⟩) N c, .int .i64 a, .int .i64 m, .int .i64 b, .func (.func 63) #[] #[q]] w (MrgPost (ltc cm) f g w0 P [x] B S) := by
  have hbN := h.le
  have hbig := h.big
  have H := Lib.hid h
  have hma : m = a + 1 := h.hm
  have hmb : m < b := by have := h.hb; have := h.b0; omega
  have hb' : m + B.length = b := h.hb.symm
  have HBL := Lib.hid hb'
  have HMO := Lib.hid (mono_bel hw x m h.sb)
  clear h hb'
  subst hma
  have h1 : (a : Int) + 1 - (a : Int) = 1 := by omega
  go_enter Try.func102, Try.ntmps102
  go_wp2
  go_loopw [10, 11] (fun i j wr => Se1 (ltc cm) g w0 f (P ++ [x] ++ B ++ S) x B (a + 1) i j wr) (fun i j _ => (intOf j).toNat - (intOf i).toNat)
  case atStart => exact ⟨a + 1, b, by go_num, rfl, by rw [← HBL.out]; exact Bs.start _ (by omega), H.out.dat, H.out.gr⟩
  case round =>
    obtain ⟨i, j, rfl, rfl, hbs, hD, hG⟩ := hrel
    have HBS := Lib.hid hbs
    have HD := Lib.hid hD
    have HG := Lib.hid hG
    have hij := hbs.le
    have him := hbs.lo
    have hjb := hbs.hi
    rw [HBL.out] at hjb
    clear hbs hD hG
    by_cases hlt : i < j
    · go_upto_region 5 with fail
      rw [show ((i : Int) + (j : Int)) / 2 = (((i + j) / 2 : Nat) : Int) by omega]
      obtain ⟨k, hk⟩ : ∃ k, k = (i + j) / 2 := ⟨_, rfl⟩
      have hk1 : i ≤ k := by omega
      have hk2 : k < j := by omega
      rw [← hk]
      clear hk
      have hkB : k - (a + 1) < B.length := by have := HBL.out; omega
      have hyB := List.getElem_mem hkB
      have hy0 := List.getElem?_eq_getElem hkB
      have e1 := (at_B (P := P) (A := [x]) (B := B) (S := S) (m := a + 1) (h := k) (by have := H.out.ha; simp; omega) (by omega) (by omega)).trans hy0
      have e2 := (at_A (P := P) (A := [x]) (B := B) (S := S) (a := a) (h := a) H.out.ha (by omega) (by simp)).trans (by simp : [x][a - a]? = some x)
      have p1 := cell_regrown (HD.out.cell e1)
      have p2 := cell_regrown (HD.out.cell e2)
      have hty : x.2 < B[k - (a + 1)].2 := H.out.lo x (by simp) _ hyB
      have HCM := Lib.hid (H.out.cmp.at_ HG.out (H.out.okB _ hyB) (H.out.okA x (by simp)))
      have HY := Lib.hid hy0
      clear e1 e2 hy0 hyB
      generalize B[k - (a + 1)] = y at p1 hty HCM HY
      have l1 : (k : Int) < (N : Int) := by omega
      have l2 : (a : Int) < (N : Int) := by omega
      have w1 : IntKind.i64.wrap (k : Int) = (k : Int) := by rw [IntKind.wrap_i64]; omega
      have w2 : IntKind.i64.wrap (a : Int) = (a : Int) := by rw [IntKind.wrap_i64]; omega
      by_cases hlt0 : cm y.1 x.1 < 0
      · have hd1 : decide (cm y.1 x.1 < 0) = true := decide_eq_true hlt0
        have HBE : Hid (bel (ltc cm) x B (a + 1) k) := Lib.hid ⟨y, HY.out, Rt.down hw (by unfold ltc; exact decide_eq_true hlt0)⟩
        refine wp_region_quiet_below (by kernel_rfl) (by kernel_rfl) ?_
        repeat (go_big_quiet_step ((with_reducible exact Calls.regrown_of (HCM.out _ _))))
        refine wpQuiet_nil ?_
        intro w5 hw5
        obtain ⟨pp, rfl⟩ := hw5
        have HB5 := Lib.hid (below_regrown wr pp.d pp.os)
        have HD4 := Lib.hid (HD.out.below HB5.out)
        have HG4 := Lib.hid (HG.out.below HB5.out)
        clear p1 p2 HCM w1 w2
        generalize grow (redrawn wr pp.d) pp.os = W5 at HD4 HG4 ⊢
        go_wp2
        go_roundw
        case rel => exact ⟨k + 1, j, by go_num, rfl, HBS.out.up HMO.out hk1 hk2 HBE.out, HD4.out, HG4.out⟩
        case measure => simp [intOf]; omega
      · have hd1 : decide (cm y.1 x.1 < 0) = false := decide_eq_false hlt0
        have HBE : Hid (¬ bel (ltc cm) x B (a + 1) k) := Lib.hid fun ⟨z, hz, hr⟩ => by
          rw [HY.out] at hz
          injection hz with hz
          subst hz
          have := Rt.yes hty hr
          unfold ltc at this
          exact hlt0 (of_decide_eq_true this)
        refine wp_region_quiet_below (by kernel_rfl) (by kernel_rfl) ?_
        repeat (go_big_quiet_step ((with_reducible exact Calls.regrown_of (HCM.out _ _))))
        refine wpQuiet_nil ?_
        intro w5 hw5
        obtain ⟨pp, rfl⟩ := hw5
        have HB5 := Lib.hid (below_regrown wr pp.d pp.os)
        have HD4 := Lib.hid (HD.out.below HB5.out)
        have HG4 := Lib.hid (HG.out.below HB5.out)
        clear p1 p2 HCM w1 w2
        generalize grow (redrawn wr pp.d) pp.os = W5 at HD4 HG4 ⊢
        go_wp2
        go_roundw
        case rel => exact ⟨i, k, rfl, rfl, HBS.out.down HMO.out hk1 hk2 HBE.out, HD4.out, HG4.out⟩
        case measure => simp [intOf]; omega
    · obtain rfl : i = j := by omega
      obtain ⟨k0, hk0⟩ : ∃ k0, i = a + 1 + k0 := ⟨i - (a + 1), by omega⟩
      subst hk0
      have HSR := Lib.hid (put_bel hw H.out.sb (fun y hy e => by have := H.out.lo x (by simp) y hy; omega) HBS.out)
      have hkl : k0 ≤ B.length := by have := HBL.out; omega
      have hD := HD.out
      have e0 : P ++ [x] ++ B ++ S = P ++ (B.take 0 ++ x :: B.drop 0) ++ S := by simp
      rw [e0] at hD
      have HD1 := Lib.hid hD
      clear hD e0 HBS HD
      have i1 : (a : Int) + 1 + (k0 : Int) - 1 = (a : Int) + (k0 : Int) := by omega
      go_wp2_with fail
      go_loopw [13] (fun k wr => Sw1 g w0 f P S x B a k0 k wr) (fun k _ => a + k0 - (intOf k).toNat)
      case atStart => exact ⟨0, by simp, by omega, HD1.out, HG.out⟩
      case round =>
        obtain ⟨t, rfl, ht, hD, hG⟩ := hrel
        have HG2 := Lib.hid hG
        by_cases hlt : t < k0
        · have htB : t < B.length := by omega
          have e0 : dt f (P ++ (B.take t ++ x :: B.drop t) ++ S) = dt f (P ++ B.take t) ++ f x.1 :: ([] ++ f B[t].1 :: dt f (B.drop (t + 1) ++ S)) := by
            have e1 := List.drop_eq_getElem_cons htB
            rw [e1]; simp only [dt_append, dt_cons, List.append_assoc, List.cons_append, List.nil_append]
          rw [e0] at hD
          have hn : dt f (P ++ B.take t) ++ f B[t].1 :: ([] ++ f x.1 :: dt f (B.drop (t + 1) ++ S)) = dt f (P ++ (B.take (t + 1) ++ x :: B.drop (t + 1)) ++ S) := by
            have e1 := List.take_succ_eq_append_getElem htB
            rw [e1]; simp only [dt_append, dt_cons, List.append_assoc, List.cons_append, List.nil_append]
          have HNX := Lib.hid hn
          have ht0 : a + t = (dt f (P ++ B.take t)).length := by rw [dt_len]; simp; have := H.out.ha; omega
          have ht1 : a + t + 1 = (dt f (P ++ B.take t)).length + 1 + ([] : List Sl).length := by rw [← ht0]; rfl
          obtain ⟨c1, c2, f1, f2⟩ := hD.two ht0 ht1
          have HD3 := Lib.hid hD
          have HT0 := Lib.hid ht0
          have HT1 := Lib.hid ht1
          have htN : a + t + 1 < N := by have := HBL.out; omega
          clear hD e0 ht0 ht1 hG hn
          generalize B[t] = y at c2 HD3 HNX
          generalize hT : a + t = s at c1 c2 f1 f2 HT0 HT1 htN
          have hTT := Lib.hid hT
          have hlts : (s : Int) < (a : Int) + (k0 : Int) := by omega
          clear hT
          have w1 : IntKind.i64.wrap ((s : Int) + 1) = (s : Int) + 1 := by rw [IntKind.wrap_i64]; omega
          have l1 : (s : Int) + 1 < (N : Int) := by omega
          have l2 : (s : Int) < (N : Int) := by omega
          have t1 : ((s : Int) + 1).toNat = s + 1 := by omega
          have n1 : 0 ≤ (s : Int) + 1 := by omega
          try rw [hTT.out]
          go_upto_region 11 with fail
          go_region
          have HDS := Lib.hid ((HD3.out.swap HT0.out HT1.out).below (Below.refl _ _).drew)
          rw [HNX.out] at HDS
          have HGS := Lib.hid (((HG2.out.set s (.slice (f y.1).A (f y.1).n (f y.1).c)).set (s + 1) (.slice (f x.1).A (f x.1).n (f x.1).c)).below (Below.refl _ _).drew)
          clear w1 l1 l2 n1 t1 c1 c2 f1 f2 HD3 HG2 HNX
          generalize ((wr.setCell ⟨g, s, none⟩ (.slice (f y.1).A (f y.1).n (f y.1).c)).setCell ⟨g, s + 1, none⟩ (.slice (f x.1).A (f x.1).n (f x.1).c)).drew = w6 at HDS HGS ⊢
          go_wp2
          go_roundw
          case rel => exact ⟨t + 1, by have := hTT.out; subst this; go_num, by omega, HDS.out, HGS.out⟩
          case measure => simp [intOf]; have := hTT.out; omega
        · obtain rfl : t = k0 := by omega
          have HD3 := Lib.hid hD
          clear hD hG
          go_wp2
          go_end0
          exact ⟨_, rfl, HSR.out, by exact (List.perm_middle.trans (by rw [List.take_append_drop]; exact .refl _)), HD3.out, HG2.out⟩
end Go.Proofs.Ytddeaiciochggaa.So
