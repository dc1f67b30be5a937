/- Pairs told after a put or a taking away: the walk of after. Conditions: few pairs, read in memory. -/
import Derived.Test.YtkpjkglheegmgaaQj
namespace Go.Proofs.Ytkpjkglheegmgaa
open Go.RowKit
set_option linter.unusedSimpArgs false
set_option linter.unusedVariables false

/-- One more pair. -/
theorem push_pair (W : World) (B : Nat) (v : Value) (xs : List Pr) (x : Pr) (o : W.ownsRow B 47 2 v xs.length (pcells xs)) (hB : B ≤ W.heap.size) (hx : xs.length ≤ 100000) :
    ∃ A' c' W', (Builtin.append_ #[29, 29] 29 #[v, .slice (some ⟨W.heap.size, 0, none⟩) 1 1]).run Try.prog (W.alloc (.cells #[.string x.1.s, .string x.2.s] 47)) = .ok (.slice A' (xs.length + 1) c') W' ∧ W'.ownsRow B 47 2 (.slice A' (xs.length + 1) c') (xs ++ [x]).length (pcells (xs ++ [x])) ∧ Below B W W' := by
  obtain ⟨iP, hiP, hiz, hi1, hi2⟩ := info_parts3 Try.infoP
  obtain ⟨v3, w3, hrun, ho3, hg3, _⟩ := run_append_own (P := Try.prog) (W.alloc (.cells #[.string x.1.s, .string x.2.s] 47)) B 29 29 47 iP (.agg #[.string ⟨#[]⟩, .string ⟨#[]⟩]) 2 32 Try.underlying29 hiP hiz hi1 hi2 rfl (by decide) v xs.length (pcells xs) (own_below o (below1 W _)) ⟨W.heap.size, 0, none⟩ 1 1 (pcell x) rfl (newcells W x) (by intro u hu; simp [pcell] at hu; rcases hu with rfl | rfl <;> rfl) (by unfold maxLen; omega) (by omega) (by simp; omega)
  obtain ⟨A3, c3, rfl⟩ := own_form ho3
  refine ⟨A3, c3, w3, hrun, ?_, ((below1 W _).mono hB).grown hg3 (by simp; omega) fun e he => (own_in o he).1⟩
  rw [List.length_append, pcells_app]
  simpa [pcells, pcell] using ho3
theorem aft_one (k v : Key) (laid : Bool) (l : List Pr) (j : Nat) (h : j < l.length) : aft k v laid (l.drop j) = (if laid = false ∧ k ≤ l[j].1 then [(k, v)] else []) ++ ((if l[j].1 ≠ k then [l[j]] else []) ++ aft k v (laid || decide (k ≤ l[j].1)) (l.drop (j + 1))) := by
  rw [List.drop_eq_getElem_cons h, aft]

set_option maxRecDepth 100000 in
set_option maxHeartbeats 4000000 in
theorem after_any (A : Option Addr) (n c : Nat) (l : List Pr) (k v : Key) (del : Bool) (w : World) (hr : RdP w A n l) (hl : l.length ≤ 5000) :
    Calls Try.prog 22 #[.slice A n c, .string k.s, .string v.s, .bool del] w fun e w' => ∃ r, e = .returned r ∧ w'.ownsRow w.heap.size 47 2 r (aft k v del l).length (pcells (aft k v del l)) ∧ Below w.heap.size w w' := by
  have HR := Lib.hid hr
  have hn := hr.len
  have HL := Lib.hid (aft_len k v del l)
  clear hr
  subst hn
  generalize haft : aft k v del l = T at *
  go_enter Try.func22, Try.ntmps22
  go_wp2
  go_loopw [9, 10, 11] (fun o d i wr => ∃ (j : Nat) (laid : Bool) (xs : List Pr), i = .int .i64 j ∧ j ≤ l.length ∧ d = .bool laid ∧ wr.ownsRow w.heap.size 47 2 o xs.length (pcells xs) ∧ Below w.heap.size w wr ∧ xs ++ aft k v laid (l.drop j) = T) (fun _ _ i _ => l.length - (intOf i).toNat)
  case atStart => exact ⟨0, del, [], rfl, by omega, rfl, World.ownsRow_nil _ _ _ _, Below.refl _ _, haft⟩
  case round =>
    obtain ⟨j, laid, xs, rfl, hj, rfl, ho, hB, hT⟩ := hrel
    obtain ⟨oA, oc, rfl⟩ := own_form ho
    clear haft
    have hxl : xs.length ≤ 20000 := by
      have h1 := congrArg List.length hT
      rw [List.length_append] at h1
      have := HL.out
      omega
    by_cases hlt : j < l.length
    · have hlt' : (j : Int) < (l.length : Int) := by omega
      have hone := aft_one k v laid l j hlt
      rw [hone, ← List.append_assoc, ← List.append_assoc] at hT
      have HRD := Lib.hid fun (W : World) (hb : Below w.heap.size w W) => (HR.out.below hb).at_ j hlt
      obtain ⟨ad, rfl, a0, a1⟩ := HRD.out wr hB
      have HRC := Lib.hid fun (W : World) (hb : Below w.heap.size w W) => show W.cell? (ad.add (j * 2)) = some (.string l[j].1.s) ∧ W.cell? ⟨(ad.add (j * 2)).block, (ad.add (j * 2)).off + 1, none⟩ = some (.string l[j].2.s) by
        obtain ⟨ad', e, b0, b1⟩ := HRD.out W hb
        have e2 := Option.some.inj e
        subst e2
        exact ⟨b0, b1⟩
      clear hone HRD
      generalize l[j] = p at *
      obtain ⟨pk, pv⟩ := p
      simp only at *
      have HO := Lib.hid ho
      have HB := Lib.hid hB
      have HT := Lib.hid hT
      clear ho hT
      have hway : (laid = true ∧ pk = k) ∨ (laid = true ∧ pk ≠ k) ∨ (laid = false ∧ k ≤ pk ∧ pk = k) ∨ (laid = false ∧ k ≤ pk ∧ pk ≠ k) ∨ (laid = false ∧ ¬ k ≤ pk) := by
        cases laid <;> by_cases h1 : k ≤ pk <;> by_cases h2 : pk = k <;> simp [h1, h2]
      rcases hway with ⟨rfl, he⟩ | ⟨rfl, he⟩ | ⟨rfl, hle, he⟩ | ⟨rfl, hle, he⟩ | ⟨rfl, hle⟩
      · subst he
        have HN := Lib.hid (show xs ++ aft pk v true (l.drop (j + 1)) = T by have h := HT.out; simpa using h)
        clear HT
        go_wp2
        go_roundw
        case rel => exact ⟨j + 1, true, xs, by go_num, hlt, rfl, HO.out, HB.out, HN.out⟩
        case measure => simp [intOf]; omega
      · have he2 : (pk.s.toList == k.s.toList) = false := beq_false_of_ne fun h => he (key_eq.1 h)
        have HN := Lib.hid (show (xs ++ [(pk, pv)]) ++ aft k v true (l.drop (j + 1)) = T by have h := HT.out; simpa [he] using h)
        obtain ⟨A1, c1, w1, hrun, ho1, hb1⟩ := push_pair wr w.heap.size _ xs (pk, pv) HO.out HB.out.size (by omega)
        have HR1 := Lib.hid hrun
        have HO1 := Lib.hid ho1
        have HB1 := Lib.hid (HB.out.trans hb1)
        clear HT hrun ho1 hb1 HO hxl HRC
        go_wp2_with (at_builtin; refine Lib.wpList_append_run _ rfl _ _ _ _ rfl _ _ rfl rfl _ _ HR1.out ?_)
        go_roundw
        case rel => exact ⟨j + 1, true, _, by go_num, hlt, rfl, HO1.out, HB1.out, HN.out⟩
        case measure => simp [intOf]; omega
      · subst he
        have hge : Op.bytesLess pk.s.toList pk.s.toList = false := by rw [less_dec]; exact decide_eq_false (by grind)
        have HN := Lib.hid (show (xs ++ [(pk, v)]) ++ aft pk v true (l.drop (j + 1)) = T by have h := HT.out; simpa [hle] using h)
        obtain ⟨A1, c1, w1, hrun, ho1, hb1⟩ := push_pair wr w.heap.size _ xs (pk, v) HO.out HB.out.size (by omega)
        obtain ⟨b0, b1⟩ := HRC.out w1 (HB.out.trans hb1)
        have HR1 := Lib.hid hrun
        have HO1 := Lib.hid ho1
        have HB1 := Lib.hid (HB.out.trans hb1)
        clear HT hrun ho1 hb1 HO hxl HRC
        go_wp2_with (at_builtin; refine Lib.wpList_append_run _ rfl _ _ _ _ rfl _ _ rfl rfl _ _ HR1.out ?_)
        go_roundw
        case rel => exact ⟨j + 1, true, _, by go_num, hlt, rfl, HO1.out, HB1.out, HN.out⟩
        case measure => simp [intOf]; omega
      · have he2 : (pk.s.toList == k.s.toList) = false := beq_false_of_ne fun h => he (key_eq.1 h)
        have hge : Op.bytesLess pk.s.toList k.s.toList = false := by rw [less_dec]; simp; grind
        have HN := Lib.hid (show ((xs ++ [(k, v)]) ++ [(pk, pv)]) ++ aft k v true (l.drop (j + 1)) = T by have h := HT.out; simpa [hle, he] using h)
        obtain ⟨A1, c1, w1, hrun, ho1, hb1⟩ := push_pair wr w.heap.size _ xs (k, v) HO.out HB.out.size (by omega)
        obtain ⟨b0, b1⟩ := HRC.out w1 (HB.out.trans hb1)
        obtain ⟨A2, c2, w2, hrun2, ho2, hb2⟩ := push_pair w1 w.heap.size _ _ (pk, pv) ho1 (HB.out.trans hb1).size (by simp; omega)
        simp only [List.length_append, List.length_cons, List.length_nil, Nat.zero_add] at hrun2
        have HR1 := Lib.hid hrun
        have HR2 := Lib.hid hrun2
        have HO1 := Lib.hid ho2
        have HB1 := Lib.hid ((HB.out.trans hb1).trans hb2)
        clear HT hrun ho1 hb1 HO hxl HRC hrun2 ho2 hb2
        go_wp2_with (at_builtin; (first | refine Lib.wpList_append_run _ rfl _ _ _ _ rfl _ _ rfl rfl _ _ HR1.out ?_ | refine Lib.wpList_append_run _ rfl _ _ _ _ rfl _ _ rfl rfl _ _ HR2.out ?_))
        go_roundw
        case rel => exact ⟨j + 1, true, _, by go_num, hlt, rfl, by simpa using HO1.out, HB1.out, HN.out⟩
        case measure => simp [intOf]; omega
      · have he : pk ≠ k := fun e => hle (by subst e; grind)
        have he2 : (pk.s.toList == k.s.toList) = false := beq_false_of_ne fun h => he (key_eq.1 h)
        have hge : Op.bytesLess pk.s.toList k.s.toList = true := by rw [less_dec]; simp; grind
        have HN := Lib.hid (show (xs ++ [(pk, pv)]) ++ aft k v false (l.drop (j + 1)) = T by have h := HT.out; simpa [he, hle] using h)
        obtain ⟨A1, c1, w1, hrun, ho1, hb1⟩ := push_pair wr w.heap.size _ xs (pk, pv) HO.out HB.out.size (by omega)
        have HR1 := Lib.hid hrun
        have HO1 := Lib.hid ho1
        have HB1 := Lib.hid (HB.out.trans hb1)
        clear HT hrun ho1 hb1 HO hxl HRC
        go_wp2_with (at_builtin; refine Lib.wpList_append_run _ rfl _ _ _ _ rfl _ _ rfl rfl _ _ HR1.out ?_)
        go_roundw
        case rel => exact ⟨j + 1, false, _, by go_num, hlt, rfl, HO1.out, HB1.out, HN.out⟩
        case measure => simp [intOf]; omega
    · obtain rfl : j = l.length := by omega
      rw [List.drop_length] at hT
      have HO := Lib.hid ho
      have HB := Lib.hid hB
      cases laid with
      | true =>
        have HN := Lib.hid (show xs = T by simpa [aft] using hT)
        clear ho hB hT
        go_wp2
        go_ret
        have h := HO.out
        rw [HN.out] at h
        rw [← HN.out]
        rw [← HN.out] at h
        exact ⟨_, rfl, h, HB.out⟩
      | false =>
        have HN := Lib.hid (show xs ++ [(k, v)] = T by simpa [aft] using hT)
        obtain ⟨A1, c1, w1, hrun, ho1, hb1⟩ := push_pair wr w.heap.size _ xs (k, v) ho hB.size (by omega)
        rw [HN.out] at ho1
        have HR1 := Lib.hid hrun
        have HO1 := Lib.hid ho1
        have HB1 := Lib.hid (hB.trans hb1)
        clear ho hB hT hrun ho1 hb1
        go_wp2_with (at_builtin; refine Lib.wpList_append_run _ rfl _ _ _ _ rfl _ _ rfl rfl _ _ HR1.out ?_)
        go_ret
        exact ⟨_, rfl, HO1.out, HB1.out⟩
end Go.Proofs.Ytkpjkglheegmgaa
