/- Which of two rows comes first by an order: what it is, and the walk of the comparison that query's ordered makes. Conditions: rows that have the places of the order. -/
import Derived.Test.YtddeaiciochggaaQb
import Derived.Test.YtddeaiciochggaaSa
namespace Go.Proofs.Ytddeaiciochggaa
open Go.RowKit Go.Sort
set_option linter.unusedSimpArgs false
set_option linter.unusedVariables false

/-- A place to order by, and whether falling. -/
structure Oq where
  n : Int
  d : Bool
/-- The slice at A reads as the orders os. -/
def RdQ (w : World) (A : Option Addr) (os : List Oq) : Prop := os ≠ [] → ∃ ad, A = some ad ∧ ∀ j o, os[j]? = some o → w.cell? (ad.add (j * 2)) = some (.int .i64 o.n) ∧ w.cell? ⟨(ad.add (j * 2)).block, (ad.add (j * 2)).off + 1, none⟩ = some (.bool o.d)
theorem RdQ.below {w w' : World} {A : Option Addr} {os : List Oq} (h : RdQ w A os) (hb : Below w.heap.size w w') : RdQ w' A os := fun hl => by
  obtain ⟨ad, e, hc⟩ := h hl
  exact ⟨ad, e, fun j o hj => by
    obtain ⟨h1, h2⟩ := hc j o hj
    exact ⟨(hb.cell (cell_lt h1)).trans h1, (hb.cell (cell_lt h2)).trans h2⟩⟩
theorem RdQ.at_ {w : World} {A : Option Addr} {os : List Oq} {j : Nat} (h : RdQ w A os) (hj : j < os.length) :
    ∃ ad, A = some ad ∧ w.cell? (ad.add (j * 2)) = some (.int .i64 os[j].n) ∧ w.cell? ⟨(ad.add (j * 2)).block, (ad.add (j * 2)).off + 1, none⟩ = some (.bool os[j].d) := by
  obtain ⟨ad, e, hc⟩ := h (by intro e; subst e; simp at hj)
  exact ⟨ad, e, hc j _ (List.getElem?_eq_getElem hj)⟩
def atQ (r : List Vl) (n : Int) : Vl := r.getD (n - 1).toNat zeroV
def cmp1 (o : Oq) (a b : List Vl) : Int := if o.d then ordL (atQ b o.n) (atQ a o.n) else ordL (atQ a o.n) (atQ b o.n)
def cmR : List Oq → List Vl → List Vl → Int
  | [], _, _ => 0
  | o :: os, a, b => if cmp1 o a b ≠ 0 then cmp1 o a b else cmR os a b
theorem ordL_lo (a b : Vl) : -1 ≤ ordL a b ∧ ordL a b ≤ 1 := by
  unfold ordL ordV ordI ordS
  repeat' split
  all_goals omega
theorem ordL_tr (a b c : Vl) (h1 : ordL a b ≤ 0) (h2 : ordL b c ≤ 0) : ordL a c ≤ 0 ∧ ((ordL a b < 0 ∨ ordL b c < 0) ↔ ordL a c < 0) := ordV_trans2 _ _ _ _ _ _ _ _ _ h1 h2
theorem cmp1_neg (o : Oq) (a b : List Vl) : cmp1 o a b = -cmp1 o b a := by
  unfold cmp1
  split
  · exact ordL_neg _ _
  · exact ordL_neg _ _
theorem cmp1_tr (o : Oq) (a b c : List Vl) (h1 : cmp1 o a b ≤ 0) (h2 : cmp1 o b c ≤ 0) : cmp1 o a c ≤ 0 ∧ ((cmp1 o a b < 0 ∨ cmp1 o b c < 0) ↔ cmp1 o a c < 0) := by
  unfold cmp1 at *
  split
  · rename_i h
    rw [if_pos h] at h1 h2
    have := ordL_tr _ _ _ h2 h1
    omega
  · rename_i h
    rw [if_neg h] at h1 h2
    exact ordL_tr _ _ _ h1 h2
theorem cmR_neg : ∀ (os : List Oq) (a b : List Vl), cmR os a b = -cmR os b a
  | [], _, _ => rfl
  | o :: os, a, b => by
    have h := cmp1_neg o a b
    have ih := cmR_neg os a b
    unfold cmR
    split
    · rw [if_pos (by omega)]; exact h
    · rw [if_neg (by omega)]; exact ih
theorem cmR_tr : ∀ (os : List Oq) (a b c : List Vl), cmR os a b ≤ 0 → cmR os b c ≤ 0 → cmR os a c ≤ 0
  | [], _, _, _, _, _ => Int.le_refl _
  | o :: os, a, b, c, h1, h2 => by
    have ih := cmR_tr os a b c
    have ht := cmp1_tr o a b c
    have e (x y : List Vl) : cmR (o :: os) x y = if cmp1 o x y ≠ 0 then cmp1 o x y else cmR os x y := rfl
    rw [e] at h1 h2 ⊢
    by_cases e1 : cmp1 o a b = 0 <;> by_cases e2 : cmp1 o b c = 0 <;> by_cases e3 : cmp1 o a c = 0 <;> simp only [e1, e2, e3, if_true, if_false, not_false_eq_true, not_true_eq_false, ne_eq] at h1 h2 ht ⊢ <;> omega
theorem ltc_wk (os : List Oq) : So.Wk (fun a b : List Vl => decide (cmR os a b < 0)) := by
  refine ⟨fun x y h => ?_, fun x y z h1 h2 => ?_⟩
  · have := cmR_neg os x y
    have h := of_decide_eq_true h
    exact decide_eq_false (by omega)
  · have n1 := cmR_neg os x y
    have n2 := cmR_neg os y z
    have n3 := cmR_neg os x z
    have h1 := of_decide_eq_false h1
    have h2 := of_decide_eq_false h2
    have := cmR_tr os x y z (by omega) (by omega)
    exact decide_eq_false (by omega)
/-- The rows have the places. -/
def Has (os : List Oq) (r : List Vl) : Prop := ∀ o ∈ os, 1 ≤ o.n ∧ o.n ≤ r.length
theorem Has.get {os : List Oq} {r : List Vl} (h : Has os r) {j : Nat} (hj : j < os.length) : ∃ i : Nat, ∃ hi : i < r.length, os[j].n = (i : Int) + 1 ∧ atQ r os[j].n = r[i] := by
  obtain ⟨h1, h2⟩ := h _ (List.getElem_mem hj)
  refine ⟨(os[j].n - 1).toNat, by omega, by omega, ?_⟩
  unfold atQ
  rw [List.getD_eq_getElem?_getD, List.getElem?_eq_getElem (by omega)]
  rfl
theorem cmR_drop {os : List Oq} {j : Nat} (hj : j < os.length) (a b : List Vl) : cmR (os.drop j) a b = if cmp1 os[j] a b ≠ 0 then cmp1 os[j] a b else cmR (os.drop (j + 1)) a b := by
  rw [List.drop_eq_getElem_cons hj]
  rfl
set_option maxRecDepth 100000 in
set_option maxHeartbeats 4000000 in
theorem ord_any (A B oA : Option Addr) (c d oc : Nat) (a b : List Vl) (os : List Oq) (g : Nat) (w : World) (ha : RdL w A a) (hb : RdL w B b) (ho : RdQ w oA os) (hg : w.cell? ⟨g, 0, none⟩ = some (.slice oA os.length oc)) (h1 : Has os a) (h2 : Has os b)
    (n1 : a.length * 32 ≤ 140737488355328) (n2 : b.length * 32 ≤ 140737488355328) (n3 : os.length ≤ 9223372036854775807) :
    Calls Try.prog 63 #[.slice A a.length c, .slice B b.length d, .pointer (some ⟨g, 0, none⟩)] w fun e w' => e = .returned (.int .i64 (cmR os a b)) ∧ Below w.heap.size w w' := by
  have HA := Lib.hid ha
  have HB := Lib.hid hb
  have HO := Lib.hid ho
  have H1 := Lib.hid h1
  have H2 := Lib.hid h2
  have HOV := Lib.hid fun (x y : Vl) (W : World) => order_V x y W
  clear ha hb ho h1 h2
  go_enter Try.func63, Try.ntmps63
  go_wp2
  go_loopw [11] (fun i wr => ∃ j : Nat, i = .int .i64 j ∧ j ≤ os.length ∧ cmR os a b = cmR (os.drop j) a b ∧ Below w.heap.size w wr) (fun i _ => os.length - (intOf i).toNat)
  case atStart => exact ⟨0, rfl, by omega, rfl, Below.refl _ _⟩
  case round =>
    obtain ⟨j, rfl, hj, hcm, hBB⟩ := hrel
    have HBB := Lib.hid hBB
    have HCM := Lib.hid hcm
    clear hBB hcm
    by_cases hlt : j < os.length
    · have hlt' : (j : Int) < (os.length : Int) := by omega
      obtain ⟨ad, rfl, q0, q1⟩ := (HO.out.below HBB.out).at_ hlt
      have hq0 := cell_lt q0
      rw [add_block] at hq0
      obtain ⟨i1, hi1, e1, v1⟩ := H1.out.get hlt
      obtain ⟨i2, hi2, e2, v2⟩ := H2.out.get hlt
      have e12 : i2 = i1 := by omega
      subst e12
      have HDR := Lib.hid (cmR_drop hlt a b)
      have hc1 : cmp1 os[j] a b = if os[j].d then ordL b[i2] a[i2] else ordL a[i2] b[i2] := by unfold cmp1; rw [v1, v2]
      have HC1 := Lib.hid hc1
      clear hc1 v1 v2 e2
      rw [e1] at q0
      clear e1
      generalize cmp1 os[j] a b = C at HDR HC1
      generalize os[j].d = D at q1 HC1
      obtain ⟨aA, rfl, a0, a1, a2⟩ := (HA.out.below HBB.out).at_ hi1
      obtain ⟨bA, rfl, b0, b1, b2⟩ := (HB.out.below HBB.out).at_ hi2
      have ha0 := cell_lt a0
      have hb0 := cell_lt b0
      rw [add_block] at ha0 hb0
      have l1 : (i2 : Int) < (a.length : Int) := by omega
      have l2 : (i2 : Int) < (b.length : Int) := by omega
      generalize a[i2] = x at a0 a1 a2 HC1
      generalize b[i2] = y at b0 b1 b2 HC1
      have HLO := Lib.hid (ordL_lo x y)
      have HNG := Lib.hid (ordL_neg x y)
      have HOX := Lib.hid fun (W : World) => order_V x y W
      generalize ordL x y = O at HOX HC1 HLO HNG
      generalize ordL y x = O' at HC1 HNG
      go_upto_region 4 with fail
      have hba := below1 wr (.cells #[.int .i64 ((i2 : Int) + 1), .bool D] 88)
      have d0 : (wr.alloc (.cells #[.int .i64 ((i2 : Int) + 1), .bool D] 88)).cell? ⟨wr.heap.size, 0, none⟩ = some (.int .i64 ((i2 : Int) + 1)) := (cell_last _ _ _ _ _ rfl).trans rfl
      have d1 : (wr.alloc (.cells #[.int .i64 ((i2 : Int) + 1), .bool D] 88)).cell? ⟨wr.heap.size, 1, none⟩ = some (.bool D) := (cell_last _ _ _ _ _ rfl).trans rfl
      have p0 := cell_regrown d0
      have p1 := cell_regrown ((hba.cell (cell_lt a0)).trans a0)
      have p2 := cell_regrown ((hba.cell (cell_lt a1)).trans a1)
      have p3 := cell_regrown ((hba.cell (cell_lt a2)).trans a2)
      have p4 := cell_regrown ((hba.cell (cell_lt b0)).trans b0)
      have p5 := cell_regrown ((hba.cell (cell_lt b1)).trans b1)
      have p6 := cell_regrown ((hba.cell (cell_lt b2)).trans b2)
      have HD1 := Lib.hid d1
      have HBA := Lib.hid (thn HBB.out hba)
      clear d0 d1 a0 a1 a2 b0 b1 b2 q0 q1 hba
      generalize wr.alloc (.cells #[.int .i64 ((i2 : Int) + 1), .bool D] 88) = wa at *
      have w1 : IntKind.i64.wrap ((i2 : Int) + 1 - 1) = (i2 : Int) := by rw [IntKind.wrap_i64]; omega
      have w2 : IntKind.i64.wrap (i2 : Int) = (i2 : Int) := by rw [IntKind.wrap_i64]; omega
      refine wp_region_quiet_below (by kernel_rfl) (by kernel_rfl) ?_
      repeat (go_big_quiet_step ((with_reducible exact Calls.regrown_of (HOX.out _))))
      refine wpQuiet_nil ?_
      intro w5 hw5
      obtain ⟨pp, rfl⟩ := hw5
      have hb5 := below_regrown wa pp.d pp.os
      have HB5 := Lib.hid (thn HBA.out hb5)
      have d1 := (hb5.cell (cell_lt HD1.out)).trans HD1.out
      clear p0 p1 p2 p3 p4 p5 p6 w1 w2 HD1
      generalize grow (redrawn wa pp.d) pp.os = W5 at HB5 d1 hb5 ⊢
      clear hb5
      have hlo := HLO.out
      cases D
      · have hC : C = O := HC1.out
        by_cases hO : O = 0
        · have hO2 : (O != 0) = false := by simp [hO]
          go_wp2
          go_roundw
          case rel => exact ⟨j + 1, by go_num, hlt, by rw [HCM.out, HDR.out, if_neg (by simp [hC, hO])], HB5.out⟩
          case measure => simp [intOf]; omega
        · have hO2 : (O != 0) = true := by simp [hO]
          have HZ : Hid (cmR os a b = O) := Lib.hid (by rw [HCM.out, HDR.out, if_pos (by rw [hC]; exact hO), hC])
          go_wp2
          go_ret
          exact ⟨ret_int HZ.out.symm, HB5.out⟩
      · have hC : C = O' := HC1.out
        have hng := HNG.out
        have w3 : IntKind.i64.wrap (-O) = -O := by rw [IntKind.wrap_i64]; omega
        by_cases hO : O = 0
        · have hO2 : (-O != 0) = false := by simp [hO]
          go_wp2
          go_roundw
          case rel => exact ⟨j + 1, by go_num, hlt, by rw [HCM.out, HDR.out, if_neg (by rw [hC]; omega)], HB5.out⟩
          case measure => simp [intOf]; omega
        · have hO2 : (-O != 0) = true := by simp; omega
          have HZ : Hid (cmR os a b = -O) := Lib.hid (by rw [HCM.out, HDR.out, if_pos (by rw [hC]; omega), hC]; omega)
          clear hng hC
          go_wp2
          go_ret
          exact ⟨ret_int HZ.out.symm, HB5.out⟩
    · obtain rfl : j = os.length := by omega
      have hz : cmR os a b = 0 := by rw [HCM.out, List.drop_of_length_le (Nat.le_refl _)]; rfl
      have HZ := Lib.hid hz
      clear hz
      go_wp2
      go_ret
      exact ⟨ret_int HZ.out.symm, HBB.out⟩
end Go.Proofs.Ytddeaiciochggaa
