/- slices.insertionSortCmpFunc over a list of lists in memory of the call's own: the walk. Conditions: a comparison that orders, like ones left as they are. -/
import Derived.Test.YtddeaiciochggaaSd
namespace Go.Proofs.Ytddeaiciochggaa.So
open Go.RowKit Go.Sort
set_option linter.unusedSimpArgs false
set_option linter.unusedVariables false

/-- The words of what stands in the row. -/
def dt {α : Type} (f : α → Sl) (D : List (α × Nat)) : List Sl := D.map fun t => f t.1
theorem dt_append {α : Type} (f : α → Sl) (A B : List (α × Nat)) : dt f (A ++ B) = dt f A ++ dt f B := List.map_append
theorem dt_cons {α : Type} (f : α → Sl) (x : α × Nat) (B : List (α × Nat)) : dt f (x :: B) = f x.1 :: dt f B := rfl
theorem dt_len {α : Type} (f : α → Sl) (A : List (α × Nat)) : (dt f A).length = A.length := List.length_map _
def ltc {α : Type} (cm : α → α → Int) (x y : α) : Bool := decide (cm x y < 0)
/-- The comparison, called. -/
def CmpC {α : Type} (g : Nat) (w0 : World) (ok : α → Prop) (f : α → Sl) (cm : α → α → Int) (q : Value) : Prop :=
  ∀ W, Gr g w0 W → ∀ x y, ok x → ok y → Calls Try.prog 63 #[.slice (f x).A (f x).n (f x).c, .slice (f y).A (f y).n (f y).c, q] W fun e w' => e = .returned (.int .i64 (cm x y)) ∧ Below W.heap.size W w'
theorem CmpC.at_ {α : Type} {g : Nat} {w0 : World} {ok : α → Prop} {f : α → Sl} {cm : α → α → Int} {q : Value} (h : CmpC g w0 ok f cm q) {W : World} (hg : Gr g w0 W) {x y : α} (hx : ok x) (hy : ok y) :
    ∀ d os, Calls Try.prog 63 #[.slice (f x).A (f x).n (f x).c, .slice (f y).A (f y).n (f y).c, q] (grow (redrawn W d) os) fun e w' => e = .returned (.int .i64 (cm x y)) ∧ Below (grow (redrawn W d) os).heap.size (grow (redrawn W d) os) w' :=
  fun d os => h _ (hg.below (below_regrown W d os)) x y hx hy
/-- Where the inner loop stands: x goes down. -/
structure In {α : Type} (lt : α → α → Bool) (x : α × Nat) (L L1 L2 : List (α × Nat)) : Prop where
  cut : L1 ++ L2 = L
  srt : Srt lt L
  low : ∀ y ∈ L, y.2 < x.2
  up : ∀ y ∈ L2, Rt lt x y
theorem In.end0 {α : Type} {lt : α → α → Bool} {x : α × Nat} {L L2 : List (α × Nat)} (h : In lt x L [] L2) : Srt lt (x :: L2) := by
  have := h.cut
  simp at this
  subst this
  exact List.pairwise_cons.2 ⟨h.up, h.srt⟩
theorem In.end1 {α : Type} {lt : α → α → Bool} (hw : Wk lt) {x y : α × Nat} {L L1 L2 : List (α × Nat)} (h : In lt x L (L1 ++ [y]) L2) (hn : lt x.1 y.1 = false) : Srt lt ((L1 ++ [y]) ++ x :: L2) := by
  have hc := h.cut
  have hs := h.srt
  rw [← hc] at hs
  have hy : Rt lt y x := Rt.up (h.low y (by rw [← hc]; simp)) hn
  refine Srt_put hs (fun z hz => ?_) h.up
  rcases List.mem_append.1 hz with hz | hz
  · exact ((List.pairwise_append.1 (List.pairwise_append.1 hs).1).2.2 z hz y (by simp)).trans hw hy
  · simp at hz; subst hz; exact hy
theorem In.step {α : Type} {lt : α → α → Bool} (hw : Wk lt) {x y : α × Nat} {L L1 L2 : List (α × Nat)} (h : In lt x L (L1 ++ [y]) L2) (hn : lt x.1 y.1 = true) : In lt x L L1 (y :: L2) :=
  ⟨by rw [← h.cut]; simp, h.srt, h.low, fun z hz => (List.mem_cons.1 hz).elim (fun e => e ▸ Rt.down hw hn) (h.up z)⟩
/-- Where the outer loop stands. -/
def OutR {α : Type} (lt : α → α → Bool) (f : α → Sl) (g : Nat) (w0 : World) (P A S : List (α × Nat)) (a : Nat) (i : Value) (wr : World) : Prop :=
  ∃ (k : Nat) (L : List (α × Nat)), i = .int .i64 (a + k : Nat) ∧ 1 ≤ k ∧ (k ≤ A.length ∨ k = 1) ∧ Srt lt L ∧ L.Perm (A.take k) ∧ Dt wr g (dt f (P ++ L ++ (A.drop k ++ S))) ∧ Gr g w0 wr
def InnR {α : Type} (lt : α → α → Bool) (f : α → Sl) (g : Nat) (w0 : World) (P L R : List (α × Nat)) (x : α × Nat) (a : Nat) (j : Value) (wr : World) : Prop :=
  ∃ (L1 L2 : List (α × Nat)), j = .int .i64 (a + L1.length : Nat) ∧ In lt x L L1 L2 ∧ Dt wr g (dt f (P ++ L1 ++ x :: (L2 ++ R))) ∧ Gr g w0 wr
def InsPost {α : Type} (lt : α → α → Bool) (f : α → Sl) (g : Nat) (w0 : World) (P A S : List (α × Nat)) (e : Ending) (w' : World) : Prop :=
  ∃ A', e = .returned (.tuple #[]) ∧ Srt lt A' ∧ A'.Perm A ∧ Dt w' g (dt f (P ++ A' ++ S)) ∧ Gr g w0 w'
set_option maxRecDepth 100000 in
set_option maxHeartbeats 8000000 in
theorem insertion_any {α : Type} (f : α → Sl) (cm : α → α → Int) (ok : α → Prop) (hw : Wk (ltc cm)) (g a b c N : Nat) (P A S : List (α × Nat)) (q : Value) (w0 w : World) (hC : CmpC g w0 ok f cm q) (hD : Dt w g (dt f (P ++ A ++ S))) (hG : Gr g w0 w)
    (ha : a = P.length) (hb : b = a + A.length) (hok : ∀ x ∈ A, ok x.1) (ht : A.Pairwise fun x y => x.2 < y.2) (hN : N = (P ++ A ++ S).length) (hm : N ≤ 140737488355328) :
    Calls Try.prog 101 #[.slice (some ⟨g, 0, none⟩) N c, .int .i64 a, .int .i64 b, .func (.func 63) #[] #[q]] w (InsPost (ltc cm) f g w0 P A S) := by
  have haN : a + A.length ≤ N := by rw [hN]; simp; omega
  have hb2 : b ≤ N := by omega
  have HC := Lib.hid hC
  have HD := Lib.hid hD
  have HG := Lib.hid hG
  have HA := Lib.hid ha
  have HB := Lib.hid hb
  have HN := Lib.hid hN
  have HT := Lib.hid ht
  have HOK := Lib.hid hok
  clear hC hD hG ha hb hN ht hok
  go_enter Try.func101, Try.ntmps101
  go_wp2
  go_loopw [8] (fun i wr => OutR (ltc cm) f g w0 P A S a i wr) (fun i _ => a + A.length + 1 - (intOf i).toNat)
  case atStart => exact ⟨1, A.take 1, by go_num, by omega, by omega, by cases A <;> simp, .refl _, by have := HD.out; rw [← List.append_assoc, List.append_assoc P (A.take 1), List.take_append_drop]; exact this, HG.out⟩
  case round =>
    obtain ⟨k, L, rfl, hk1, hk2, hs, hp, hD, hG⟩ := hrel
    by_cases hlt : k < A.length
    · have hx : A.drop k = A[k] :: A.drop (k + 1) := List.drop_eq_getElem_cons hlt
      have hin : In (ltc cm) A[k] L L [] := ⟨by simp, hs, fun y hy => by
        obtain ⟨i, hi, rfl⟩ := List.mem_take_iff_getElem.1 (hp.mem_iff.1 hy)
        exact List.pairwise_iff_getElem.1 HT.out i k (by omega) hlt (by omega), by simp⟩
      have hpk : (A[k] :: L).Perm (A.take (k + 1)) := by
        rw [List.take_succ_eq_append_getElem hlt]
        exact (hp.cons _).trans (List.perm_append_comm (l₁ := [A[k]]))
      have hlL : L.length = k := by rw [hp.length_eq]; simp; omega
      have hokx := HOK.out A[k] (List.getElem_mem hlt)
      have hokL : ∀ y ∈ L, ok y.1 := fun y hy => HOK.out y (List.mem_of_mem_take (hp.mem_iff.1 hy))
      rw [hx] at hD
      have HIN := Lib.hid hin
      have HPK := Lib.hid hpk
      have HLL := Lib.hid hlL
      have HD1 := Lib.hid hD
      have HG1 := Lib.hid hG
      have HOL := Lib.hid hokL
      generalize A[k] = x at HIN HPK HD1 hokx
      have hib : (a : Int) + (k : Int) < (b : Int) := by have := HB.out; omega
      clear hx hin hpk hlL hD hG hokL hs hp hk2
      go_wp2_with fail
      go_loopw [9] (fun j wr => InnR (ltc cm) f g w0 P L (A.drop (k + 1) ++ S) x a j wr) (fun j _ => (intOf j).toNat)
      case atStart => exact ⟨L, [], by rw [HLL.out], HIN.out, by have := HD1.out; rw [List.cons_append] at this; exact this, HG1.out⟩
      case round =>
        obtain ⟨L1, L2, rfl, hin, hD, hG⟩ := hrel
        have HI := Lib.hid hin
        have HD2 := Lib.hid hD
        have HG2 := Lib.hid hG
        clear hin hD hG
        rcases List.eq_nil_or_concat L1 with e | ⟨L1', y, e⟩
        · subst e
          have hd0 : decide ((a : Int) < (a : Int)) = false := by simp
          go_wp2_with fail
          refine wp_region_quiet_below (by kernel_rfl) (by kernel_rfl) ?_
          repeat (go_big_quiet_step (fail))
          refine wpQuiet_nil ?_
          intro w5 hw5
          obtain ⟨pp, rfl⟩ := hw5
          have HB5 := Lib.hid (below_regrown wr pp.d pp.os)
          have HD3 := Lib.hid (HD2.out.below HB5.out)
          have HG3 := Lib.hid (HG2.out.below HB5.out)
          generalize grow (redrawn wr pp.d) pp.os = W5 at HD3 HG3 ⊢
          go_wp2
          go_roundw
          case rel => exact ⟨k + 1, x :: L2, by go_num, by omega, by omega, HI.out.end0, by have h := HPK.out; have := HI.out.cut; simp at this; subst this; exact h, by have := HD3.out; simp at this ⊢; exact this, HG3.out⟩
          case measure => simp [intOf]; omega
        · rw [List.concat_eq_append] at e
          subst e
          have hyL : ok y.1 := HOL.out y (by rw [← HI.out.cut]; simp)
          have hlen : a + (L1' ++ [y]).length ≤ a + k := by
            have h1 := HI.out.cut
            have h2 := HLL.out
            have h3 := congrArg List.length h1
            simp at h3 ⊢
            omega
          have hD := HD2.out
          have e0 : dt f (P ++ (L1' ++ [y]) ++ x :: (L2 ++ (A.drop (k + 1) ++ S))) = dt f (P ++ L1') ++ f y.1 :: ([] ++ f x.1 :: dt f (L2 ++ (A.drop (k + 1) ++ S))) := by simp [dt_append, dt_cons]
          rw [e0] at hD
          have ht0 : a + L1'.length = (dt f (P ++ L1')).length := by rw [dt_len]; simp; have := HA.out; omega
          have ht1 : a + L1'.length + 1 = (dt f (P ++ L1')).length + 1 + ([] : List Sl).length := by rw [← ht0]; rfl
          obtain ⟨c1, c2, f1, f2⟩ := hD.two ht0 ht1
          have HD3 := Lib.hid hD
          have HT0 := Lib.hid ht0
          have HT1 := Lib.hid ht1
          have hcm := HC.out.at_ HG2.out hokx hyL
          have HCM := Lib.hid hcm
          have hl1 : (L1' ++ [y]).length = L1'.length + 1 := by simp
          rw [hl1] at hlen ⊢
          have htN : a + L1'.length + 1 < N := by omega
          clear hD e0 ht0 ht1 hcm hl1
          have p1 := cell_regrown c1
          have p2 := cell_regrown c2
          generalize hT : a + L1'.length = t at c1 c2 f1 f2 p1 p2 HT0 HT1 htN hlen
          have hTT := Lib.hid hT
          have hj : a + (L1'.length + 1) = t + 1 := by omega
          rw [hj]
          clear hT hj
          have hat : a ≤ t := by have := hTT.out; omega
          have hd0 : decide ((a : Int) < (t : Int) + 1) = true := decide_eq_true (by omega)
          have w1 : IntKind.i64.wrap ((t : Int) + 1 - 1) = (t : Int) := by rw [IntKind.wrap_i64]; omega
          have w2 : IntKind.i64.wrap (t : Int) = (t : Int) := by rw [IntKind.wrap_i64]; omega
          have l1 : (t : Int) + 1 < (N : Int) := by omega
          have l2 : (t : Int) < (N : Int) := by omega
          have t1 : ((t : Int) + 1).toNat = t + 1 := by omega
          have n1 : 0 ≤ (t : Int) + 1 := by omega
          by_cases hlt0 : cm x.1 y.1 < 0
          · have hd1 : decide (cm x.1 y.1 < 0) = true := decide_eq_true hlt0
            go_wp2_with fail
            refine wp_region_quiet_below (by kernel_rfl) (by kernel_rfl) ?_
            repeat (go_big_quiet_step ((with_reducible exact Calls.regrown_of (HCM.out _ _))))
            refine wpQuiet_nil ?_
            intro w5 hw5
            obtain ⟨pp, rfl⟩ := hw5
            have HB5 := Lib.hid (below_regrown wr pp.d pp.os)
            have HD4 := Lib.hid (HD3.out.below HB5.out)
            have HG4 := Lib.hid (HG2.out.below HB5.out)
            clear c1 c2 f1 f2 p1 p2 HCM HD3 HG2 HD2
            generalize grow (redrawn wr pp.d) pp.os = W5 at HD4 HG4 ⊢
            obtain ⟨c1, c2, f1, f2⟩ := HD4.out.two HT0.out HT1.out
            go_upto_region 6 with fail
            go_region
            have HDS := Lib.hid ((HD4.out.swap2 HT0.out HT1.out).below (Below.refl _ _).drew)
            have HGS := Lib.hid (((HG4.out.set (t + 1) (.slice (f y.1).A (f y.1).n (f y.1).c)).set t (.slice (f x.1).A (f x.1).n (f x.1).c)).below (Below.refl _ _).drew)
            clear w1 w2 l1 l2 n1 t1 c1 c2 f1 f2 HD4 HG4
            generalize ((W5.setCell ⟨g, t + 1, none⟩ (.slice (f y.1).A (f y.1).n (f y.1).c)).setCell ⟨g, t, none⟩ (.slice (f x.1).A (f x.1).n (f x.1).c)).drew = w6 at HDS HGS ⊢
            go_wp2
            go_roundw
            case rel => exact ⟨L1', y :: L2, by rw [hTT.out], HI.out.step hw (by unfold ltc; exact decide_eq_true hlt0), by have := HDS.out; simpa [dt_append, dt_cons] using this, HGS.out⟩
            case measure => simp [intOf]
          · have hd1 : decide (cm x.1 y.1 < 0) = false := decide_eq_false hlt0
            go_wp2_with fail
            refine wp_region_quiet_below (by kernel_rfl) (by kernel_rfl) ?_
            repeat (go_big_quiet_step ((with_reducible exact Calls.regrown_of (HCM.out _ _))))
            refine wpQuiet_nil ?_
            intro w5 hw5
            obtain ⟨pp, rfl⟩ := hw5
            have HB5 := Lib.hid (below_regrown wr pp.d pp.os)
            have HD4 := Lib.hid (HD3.out.below HB5.out)
            have HG4 := Lib.hid (HG2.out.below HB5.out)
            clear c1 c2 f1 f2 p1 p2 HCM HD3 HG2 HD2
            generalize grow (redrawn wr pp.d) pp.os = W5 at HD4 HG4 ⊢
            go_wp2
            go_roundw
            case rel => exact ⟨k + 1, (L1' ++ [y]) ++ x :: L2, by go_num, by omega, by omega, HI.out.end1 hw (by unfold ltc; exact decide_eq_false (by omega)), by have h := HPK.out; rw [← HI.out.cut] at h; exact List.perm_middle.trans h, by have := HD4.out; simpa [dt_append, dt_cons] using this, HG4.out⟩
            case measure => simp [intOf]; omega
    · obtain ⟨hA1, hA2⟩ : A.take k = A ∧ A.drop k = [] := by
        have hkl : A.length ≤ k := by omega
        exact ⟨List.take_of_length_le hkl, List.drop_eq_nil_of_le hkl⟩
      rw [hA1] at hp
      rw [hA2] at hD
      have HP := Lib.hid hp
      have HD1 := Lib.hid hD
      have HG1 := Lib.hid hG
      have hib : ¬ ((a : Int) + (k : Int) < (b : Int)) := by have := HB.out; omega
      clear hA1 hA2 hp hD hG hk2
      go_wp2
      go_end0
      exact ⟨L, rfl, hs, HP.out, HD1.out, HG1.out⟩
end Go.Proofs.Ytddeaiciochggaa.So
