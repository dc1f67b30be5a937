/- Rows put in order, the first of them: the walk of query's Sort. Conditions: rows and orders that are read in memory. -/
import Derived.Test.YtddeaiciochggaaQe
import Derived.Test.YtddeaiciochggaaQf
namespace Go.Proofs.Ytddeaiciochggaa
open Go.RowKit Go.Sort
set_option linter.unusedSimpArgs false
set_option linter.unusedVariables false

def okQ (o : Oq) (r : List Vl) : Bool := decide (1 ≤ o.n) && decide (o.n ≤ r.length)
/-- All rows have all places. -/
def allQ (os : List Oq) (ls : List (List Vl)) : Bool := os.all fun o => ls.all (okQ o)
theorem allQ_has {os : List Oq} {ls : List (List Vl)} (h : allQ os ls = true) : ∀ r ∈ ls, Has os r := fun r hr o ho => by
  have h1 := List.all_eq_true.1 (List.all_eq_true.1 h o ho) r hr
  unfold okQ at h1
  simp at h1
  exact h1
theorem allQ_no {os : List Oq} {ls : List (List Vl)} {o : Oq} {r : List Vl} (ho : o ∈ os) (hr : r ∈ ls) (h : okQ o r = false) : allQ os ls = false := by
  cases e : allQ os ls with
  | false => rfl
  | true =>
    have := List.all_eq_true.1 (List.all_eq_true.1 e o ho) r hr
    rw [h] at this; cases this
theorem allQ_yes {os : List Oq} {ls : List (List Vl)} (h : ∀ o ∈ os, ∀ r ∈ ls, okQ o r = true) : allQ os ls = true := List.all_eq_true.2 fun o ho => List.all_eq_true.2 fun r hr => h o ho r hr
/-- The first of a list: all, where the bound is below 0. -/
def limQ {α : Type} (k : Int) (l : List α) : List α := if 0 ≤ k then l.take k.toNat else l
def SrtPost (w : World) (os : List Oq) (ls : List (List Vl)) (k : Int) (e : Ending) (w' : World) : Prop :=
  (allQ os ls = true → ∃ A n c, e = .returned (.tuple #[.slice A n c, .int .i64 0]) ∧ n = (limQ k (So.sortL (ltQ os) ls)).length ∧ RdR w' A (limQ k (So.sortL (ltQ os) ls)) ∧ (A = none → n = 0)) ∧
  (allQ os ls = false → e = .returned (.tuple #[.slice none 0 0, .int .i64 4])) ∧ Below w.heap.size w w'
theorem RdR.take {w : World} {A : Option Addr} {ls : List (List Vl)} (h : RdR w A ls) (k : Nat) : RdR w A (ls.take k) := fun hl => by
  obtain ⟨ad, e, hc⟩ := h (fun e => hl (by rw [e]; simp))
  refine ⟨ad, e, fun j r hj => hc j r ?_⟩
  have hjk : j < k := by
    have := (List.getElem?_eq_some_iff.1 hj).1
    simp at this; omega
  rwa [List.getElem?_take_of_lt hjk] at hj
theorem sortQ_len (os : List Oq) (ls : List (List Vl)) : (So.sortL (ltQ os) ls).length = ls.length := (sortL_perm _ _).length_eq
theorem ordered_any (A : Option Addr) (c n : Nat) (w : World) :
    Calls Try.prog 38 #[.slice A n c] w fun e w' => e = .returned (.func (.func 63) #[] #[.pointer (some ⟨w.heap.size, 0, none⟩)]) ∧ w'.cell? ⟨w.heap.size, 0, none⟩ = some (.slice A n c) ∧ Below w.heap.size w w' := by
  go_enter Try.func38, Try.ntmps38
  go_wp2
  go_ret
  exact ⟨rfl, (cell_last _ _ _ _ _ rfl).trans rfl, below1 _ _⟩
theorem fresh_n (A : Option Addr) (n c : Nat) (ls : List (List Vl)) (w : World) (hl : n = ls.length) (hr : RdR w A ls) (hn : ls.length * 24 ≤ 140737488355328 - 24) :
    Calls Try.prog 39 #[.slice A n c] w fun e w' => ∃ A' c', e = .returned (.slice A' n c') ∧ RdR w' A' ls ∧ (A' = none → n = 0) ∧ Below w.heap.size w w' := by
  subst hl
  exact fresh_any A c ls w hr hn
def Chk1 (w : World) (os : List Oq) (ls : List (List Vl)) (i : Value) (wr : World) : Prop :=
  ∃ j : Nat, i = .int .i64 j ∧ j ≤ os.length ∧ (∀ o ∈ os.take j, ∀ r ∈ ls, okQ o r = true) ∧ Below w.heap.size w wr
set_option maxRecDepth 100000 in
set_option maxHeartbeats 8000000 in
theorem sort_any (A oA : Option Addr) (c oc : Nat) (ls : List (List Vl)) (os : List Oq) (k : Int) (w : World) (hr : RdR w A ls) (hA : A = none → ls.length = 0) (hn : ls.length * 24 ≤ 140737488355328 - 24) (ho : RdQ w oA os) (hon : os.length ≤ 140737488355328) (hk : k ≤ 9223372036854775807) :
    Calls Try.prog 15 #[.slice A ls.length c, .slice oA os.length oc, .int .i64 k] w (SrtPost w os ls k) := by
  have HR := Lib.hid hr
  have HO := Lib.hid ho
  have HAN := Lib.hid hA
  have HLE := Lib.hid (sortQ_len os ls)
  clear hr ho hA
  go_enter Try.func15, Try.ntmps15
  go_wp2
  go_loopw [14] (fun i wr => Chk1 w os ls i wr) (fun i _ => os.length - (intOf i).toNat)
  case atStart => exact ⟨0, rfl, by omega, by simp, Below.refl _ _⟩
  case round =>
    obtain ⟨j, rfl, hj, hok, hB⟩ := hrel
    have HOK := Lib.hid hok
    have HB := Lib.hid hB
    clear hok hB
    by_cases hlt : j < os.length
    · have hlt' : (j : Int) < (os.length : Int) := by omega
      obtain ⟨ad, rfl, q0, q1⟩ := (HO.out.below HB.out).at_ hlt
      have hq0 := cell_lt q0
      rw [add_block] at hq0
      have hom := List.getElem_mem hlt
      have htk : os.take (j + 1) = os.take j ++ [os[j]] := List.take_succ_eq_append_getElem hlt
      have HOM := Lib.hid hom
      have HTK := Lib.hid htk
      clear hom htk
      generalize os[j] = o at q0 q1 HOM HTK
      go_upto_region 4 with fail
      have hb1 := below1 wr (.cells #[.int .i64 o.n, .bool o.d] 88)
      have x0 : (wr.alloc (.cells #[.int .i64 o.n, .bool o.d] 88)).cell? ⟨wr.heap.size, 0, none⟩ = some (.int .i64 o.n) := (cell_last _ _ _ _ _ rfl).trans rfl
      have HB1 := Lib.hid (thn HB.out hb1)
      clear q0 q1 hb1
      generalize wr.alloc (.cells #[.int .i64 o.n, .bool o.d] 88) = W1 at *
      generalize wr.heap.size = bx at *
      have hbx := cell_lt x0
      go_wp2_with fail
      go_loop [20] (fun i => ∃ m : Nat, i = .int .i64 m ∧ m ≤ ls.length ∧ ∀ r ∈ ls.take m, okQ o r = true) (fun i => ls.length - (intOf i).toNat)
      case atStart => exact ⟨0, rfl, by omega, by simp⟩
      case round =>
        obtain ⟨m, rfl, hm, hokm⟩ := hrel
        have HOKM := Lib.hid hokm
        clear hokm
        by_cases hltm : m < ls.length
        · have hltm' : (m : Int) < (ls.length : Int) := by omega
          obtain ⟨rd, rB, rc, rfl, g0, _, _, gn⟩ := (HR.out.below HB1.out).at_ hltm
          have hg0 := cell_lt g0
          have hrm := List.getElem_mem hltm
          have htm : ls.take (m + 1) = ls.take m ++ [ls[m]] := List.take_succ_eq_append_getElem hltm
          have HRM := Lib.hid hrm
          have HTM := Lib.hid htm
          clear hrm htm
          generalize ls[m] = r at g0 gn HRM HTM
          by_cases h1 : o.n < 1
          · have hno : okQ o r = false := by unfold okQ; simp; omega
            have hal := allQ_no HOM.out HRM.out hno
            have HAL := Lib.hid hal
            have d1 : decide (o.n < 1) = true := decide_eq_true h1
            clear hal hno
            go_wp2
            go_ret2
            exact ⟨fun h => absurd h (by rw [HAL.out]; decide), fun _ => rfl, HB1.out⟩
          · have d1 : decide (o.n < 1) = false := decide_eq_false h1
            by_cases h2 : (r.length : Int) < o.n
            · have hno : okQ o r = false := by unfold okQ; simp; omega
              have hal := allQ_no HOM.out HRM.out hno
              have HAL := Lib.hid hal
              have d2 : decide ((r.length : Int) < o.n) = true := decide_eq_true h2
              clear hal hno
              go_wp2
              go_ret2
              exact ⟨fun h => absurd h (by rw [HAL.out]; decide), fun _ => rfl, HB1.out⟩
            · have d2 : decide ((r.length : Int) < o.n) = false := decide_eq_false h2
              have hyes : okQ o r = true := by unfold okQ; simp; omega
              have HY := Lib.hid hyes
              clear hyes
              go_wp2
              go_round
              case rel => exact ⟨m + 1, by go_num, hltm, by
                rw [HTM.out]
                intro q hq
                rcases List.mem_append.1 hq with hq | hq
                · exact HOKM.out q hq
                · simp at hq; subst hq; exact HY.out⟩
              case measure => simp [intOf]; omega
        · obtain rfl : m = ls.length := by omega
          go_wp2
          go_roundw
          case rel => exact ⟨j + 1, by go_num, hlt, by
            rw [HTK.out]
            intro q hq r hr
            rcases List.mem_append.1 hq with hq | hq
            · exact HOK.out q hq r hr
            · simp at hq; subst hq; exact HOKM.out r (by rw [List.take_length]; exact hr), HB1.out⟩
          case measure => simp [intOf]; omega
    · obtain rfl : j = os.length := by omega
      have hall : allQ os ls = true := allQ_yes (by have := HOK.out; rwa [List.take_length] at this)
      have HALL := Lib.hid hall
      clear hall
      have hsr := fun (W : World) (b : Nat) (hb : Below w.heap.size w W) (hx : W.cell? ⟨b, 0, none⟩ = some (.slice oA os.length oc)) => sorted_any A oA c oc b ls os W (HR.out.below hb) HAN.out hn (HO.out.below hb) hx (by omega) (allQ_has HALL.out)
      have HSR := Lib.hid hsr
      have HOR := Lib.hid fun W => ordered_any oA oc os.length W
      clear hsr
      generalize hS : So.sortL (ltQ os) ls = S at HSR HLE
      have HS := Lib.hid hS
      clear hS
      go_upto_region 12 with (first
        | (go_at_call 38; (with_reducible refine (HOR.out _).mono ?_); rintro e w2 ⟨rfl, hx, hb⟩; have HX2 := Lib.hid hx; have HB2 := Lib.hid (thn HB.out hb); clear hx hb)
        | (go_at_call 37; (with_reducible refine (HSR.out _ _ HB2.out HX2.out).mono ?_); rintro e w3 ⟨A3, c3, rfl, hc3, h3, hA3, hb⟩; have HC3 := Lib.hid hc3; have HR3 := Lib.hid h3; have HA3 := Lib.hid hA3; have HB3 := Lib.hid (thn HB2.out hb); clear hc3 h3 hA3 hb))
      clear HSR HOR HX2 HB2
      by_cases hk0 : 0 ≤ k
      · by_cases hkl : k < (ls.length : Int)
        · obtain ⟨q, rfl⟩ : ∃ q : Nat, k = q := ⟨k.toNat, by omega⟩
          have HLN : Hid (q = (S.take q).length) := Lib.hid (by rw [List.length_take, HLE.out]; omega)
          have HRL := Lib.hid (HR3.out.take q)
          have HLM : Hid (limQ (q : Int) S = S.take q) := Lib.hid (by unfold limQ; rw [if_pos hk0, Int.toNat_natCast])
          have hqc : q ≤ c3 := by have := HC3.out; omega
          have hmin : min (q : Int) (ls.length : Int) = (q : Int) := by omega
          have hmin2 : min q ls.length = q := by omega
          have HFR := Lib.hid (fresh_n A3 q c3 (S.take q) w3 HLN.out HRL.out (by rw [← HLN.out]; omega))
          go_wp2_with (go_at_call 39; (with_reducible refine HFR.out.mono ?_); rintro e w4 ⟨A4, c4, rfl, h4, hA4, hb⟩; have HR4 := Lib.hid h4; have HA4 := Lib.hid hA4; have HB4 := Lib.hid (thn HB3.out hb); clear h4 hA4 hb)
          go_ret2
          exact ⟨fun _ => ⟨A4, _, c4, rfl, by rw [HS.out, HLM.out]; exact HLN.out, by rw [HS.out, HLM.out]; exact HR4.out, HA4.out⟩, fun h => absurd h (by rw [HALL.out]; decide), HB4.out⟩
        · have HLN : Hid (ls.length = S.length) := Lib.hid HLE.out.symm
          have HRL := HR3
          have HLM : Hid (limQ k S = S) := Lib.hid (by unfold limQ; rw [if_pos hk0, List.take_of_length_le (by rw [HLE.out]; omega)])
          have hqc : ls.length ≤ c3 := HC3.out
          have hmin : min k (ls.length : Int) = (ls.length : Int) := by omega
          have HFR := Lib.hid (fresh_n A3 ls.length c3 (S) w3 HLN.out HRL.out (by rw [← HLN.out]; omega))
          go_wp2_with (go_at_call 39; (with_reducible refine HFR.out.mono ?_); rintro e w4 ⟨A4, c4, rfl, h4, hA4, hb⟩; have HR4 := Lib.hid h4; have HA4 := Lib.hid hA4; have HB4 := Lib.hid (thn HB3.out hb); clear h4 hA4 hb)
          go_ret2
          exact ⟨fun _ => ⟨A4, _, c4, rfl, by rw [HS.out, HLM.out]; exact HLN.out, by rw [HS.out, HLM.out]; exact HR4.out, HA4.out⟩, fun h => absurd h (by rw [HALL.out]; decide), HB4.out⟩
      · have HLN : Hid (ls.length = S.length) := Lib.hid HLE.out.symm
        have HRL := HR3
        have HLM : Hid (limQ k S = S) := Lib.hid (by unfold limQ; rw [if_neg hk0])
        have HFR := Lib.hid (fresh_n A3 ls.length c3 (S) w3 HLN.out HRL.out (by rw [← HLN.out]; omega))
        go_wp2_with (go_at_call 39; (with_reducible refine HFR.out.mono ?_); rintro e w4 ⟨A4, c4, rfl, h4, hA4, hb⟩; have HR4 := Lib.hid h4; have HA4 := Lib.hid hA4; have HB4 := Lib.hid (thn HB3.out hb); clear h4 hA4 hb)
        go_ret2
        exact ⟨fun _ => ⟨A4, _, c4, rfl, by rw [HS.out, HLM.out]; exact HLN.out, by rw [HS.out, HLM.out]; exact HR4.out, HA4.out⟩, fun h => absurd h (by rw [HALL.out]; decide), HB4.out⟩
end Go.Proofs.Ytddeaiciochggaa
