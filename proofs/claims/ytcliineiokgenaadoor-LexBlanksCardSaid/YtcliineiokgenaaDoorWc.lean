/- What LexBlanks answers for any two texts: the walk. Conditions: strconv.ErrRange holds an error; texts' lengths as every machine keeps them. -/
import Derived.Test.YtcliineiokgenaaDoorVp
import Derived.Test.YtcliineiokgenaaDoorMc
import Derived.Test.YtcliineiokgenaaDoorWb
namespace Go.Proofs.YtcliineiokgenaaDoor
open Go.RowKit
set_option linter.unusedSimpArgs false
set_option linter.unusedVariables false

theorem all_lin {m : ByteArray} (h : ∀ j (hj : j < m.size), m[j].toNat ≠ 10) : ∀ c ∈ m.data.toList, isLin c = true := by
  intro c hc
  obtain ⟨j, hj, rfl⟩ := List.getElem_of_mem hc
  have hj' : j < m.size := by simpa using hj
  have := h j hj'
  simp [isLin]
  exact this
theorem head_list (m : ByteArray) : (⟨#[32, 9, 45, 45]⟩ ++ m ++ ⟨#[10]⟩ : ByteArray).data.toList = headL m.data.toList := by
  simp [headL, ByteArray.data_append]
theorem append_list (a b : ByteArray) : (a ++ b).data.toList = a.data.toList ++ b.data.toList := by simp [ByteArray.data_append]
theorem list_size (a : ByteArray) : a.data.toList.length = a.size := by simp

set_option maxHeartbeats 4000000 in
set_option maxRecDepth 100000 in
theorem blanks_big (s m : ByteArray) (w : World) (hs : s.size ≤ 140737488355328) (hm : m.size ≤ 140737488355328) (hr : Ran w) (hbig : 1500 < s.size ∨ 400 < m.size) :
    Calls Tryd.prog 4 #[.string s, .string m] w fun e w' => e = .returned (.bool true) ∧ Below w.heap.size w w' := by
  have hal := alive_any w hr
  have hs' : s.size ≤ 9223372036854775807 := by omega
  have hm' : m.size ≤ 9223372036854775807 := by omega
  clear hs hm hr
  go_enter Tryd.func4, Tryd.ntmps4
  go_wp2_with fail
  go_at_call 7
  refine hal.mono ?_
  rintro e w1 ⟨rfl, hB1⟩
  have HB1 := Lib.hid hB1
  clear hB1 hal
  go_wp2_with fail
  go_loop [5] (fun i => ∃ k : Nat, k ≤ m.size ∧ i = .int .i64 k ∧ ∀ j (hj : j < m.size), j < k → m[j].toNat ≠ 10) (fun i => m.size - (intOf i).toNat)
  case atStart => exact ⟨0, Nat.zero_le _, rfl, fun j _ h => by omega⟩
  case round =>
    obtain ⟨k, hk, rfl, hall⟩ := hrel
    have HA := Lib.hid hall
    clear hall
    rcases Nat.lt_or_ge k m.size with hlt | hge
    · by_cases hc : m[k].toNat = 10
      · have hc1 : ((m[k].toNat : Int) == 10) = true := by simp; omega
        have hc2 : (m[k].toNat == 10) = true := by simp; omega
        clear hc
        go_wp2_with fail
        go_ret
        exact ⟨rfl, HB1.out⟩
      · have hc1 : ((m[k].toNat : Int) == 10) = false := by simp; omega
        have hc2 : (m[k].toNat == 10) = false := by simp; omega
        have HC := Lib.hid hc
        clear hc
        go_wp2_with fail
        go_round
        case rel => exact ⟨k + 1, hlt, by go_num, fun j hj h => by
          rcases Nat.lt_or_ge j k with h' | h'
          · exact HA.out j hj h'
          · obtain rfl : j = k := by omega
            exact HC.out⟩
        case measure => simp [intOf]; omega
    · rcases hbig with hb | hb
      · have hd1 : decide ((1500 : Int) < (s.size : Int)) = true := by simp; omega
        go_wp2_with fail
        go_ret
        exact ⟨rfl, HB1.out⟩
      · have hd2 : decide ((400 : Int) < (m.size : Int)) = true := by simp; omega
        rcases Nat.lt_or_ge 1500 s.size with hb' | hb'
        · have hd1 : decide ((1500 : Int) < (s.size : Int)) = true := by simp; omega
          go_wp2_with fail
          go_ret
          exact ⟨rfl, HB1.out⟩
        · have hd1 : decide ((1500 : Int) < (s.size : Int)) = false := by simp; omega
          go_wp2_with fail
          go_ret
          exact ⟨rfl, HB1.out⟩

set_option maxHeartbeats 4000000 in
set_option maxRecDepth 100000 in
theorem blanks_err (s m : ByteArray) (w : World) (hs : s.size ≤ 140737488355328) (hm : m.size ≤ 140737488355328) (hr : Ran w) (hsm : s.size ≤ 1500) (hmm : m.size ≤ 400) (a x : Nat) (h : lexL s.data.toList = .err a x) :
    Calls Tryd.prog 4 #[.string s, .string m] w fun e w' => e = .returned (.bool true) ∧ Below w.heap.size w w' := by
  have hal := alive_any w hr
  have hlex := fun w1 h1 => lex_err s a x w1 hs h1 h
  have hd1 : decide ((1500 : Int) < (s.size : Int)) = false := by simp; omega
  have hd2 : decide ((400 : Int) < (m.size : Int)) = false := by simp; omega
  have HRan := Lib.hid hr
  have HH := Lib.hid h
  have HM := Lib.hid hmm
  have HS := Lib.hid hsm
  clear hr h hs hm
  go_enter Tryd.func4, Tryd.ntmps4
  go_wp2_with fail
  go_at_call 7
  refine hal.mono ?_
  rintro e w1 ⟨rfl, hB1⟩
  have HB1 := Lib.hid hB1
  clear hB1 hal
  go_wp2_with fail
  go_loop [5] (fun i => ∃ k : Nat, k ≤ m.size ∧ i = .int .i64 k ∧ ∀ j (hj : j < m.size), j < k → m[j].toNat ≠ 10) (fun i => m.size - (intOf i).toNat)
  case atStart => exact ⟨0, Nat.zero_le _, rfl, fun j _ h => by omega⟩
  case round =>
    obtain ⟨k, hk, rfl, hall⟩ := hrel
    have HA := Lib.hid hall
    clear hall
    rcases Nat.lt_or_ge k m.size with hlt | hge
    · by_cases hc : m[k].toNat = 10
      · have hc1 : ((m[k].toNat : Int) == 10) = true := by simp; omega
        have hc2 : (m[k].toNat == 10) = true := by simp; omega
        clear hc
        go_wp2_with fail
        go_ret
        exact ⟨rfl, HB1.out⟩
      · have hc1 : ((m[k].toNat : Int) == 10) = false := by simp; omega
        have hc2 : (m[k].toNat == 10) = false := by simp; omega
        have HC := Lib.hid hc
        clear hc
        go_wp2_with fail
        go_round
        case rel => exact ⟨k + 1, hlt, by go_num, fun j hj h => by
          rcases Nat.lt_or_ge j k with h' | h'
          · exact HA.out j hj h'
          · obtain rfl : j = k := by omega
            exact HC.out⟩
        case measure => simp [intOf]; omega
    · have hlin := all_lin (m := m) fun j hj => HA.out j hj (by omega)
      have hll := lexL_head m.data.toList s.data.toList hlin (by simpa using HS.out) (by simpa using HM.out)
      rw [← head_list] at hll
      clear hlin
      go_wp2_with fail
      go_at_call 8
      refine (hlex _ (HRan.out.below HB1.out)).mono ?_
      rintro e w2 ⟨rfl, hB2⟩
      have HB2 := Lib.hid (HB1.out.trans (hB2.mono HB1.out.size))
      clear hB2 hlex
      have HLL := Lib.hid hll
      clear hll
      go_wp2_with fail
      go_at_call 8
      have hll := HLL.out
      have hz : (⟨#[32, 9, 45, 45]⟩ ++ m ++ ⟨#[10]⟩ : ByteArray).size = m.size + 5 := by rw [← list_size, head_list]; simp [headL]
      generalize (⟨#[32, 9, 45, 45]⟩ ++ m ++ ⟨#[10]⟩ : ByteArray) = Hd at hll hz ⊢
      rw [← append_list, HH.out, list_size] at hll
      obtain ⟨b, hb⟩ : ∃ b : Nat, b = a + Hd.size := ⟨_, rfl⟩
      have hll2 : lexL (Hd ++ s).data.toList = .err b x := by rw [hb]; exact hll
      have hTz : (Hd ++ s).size ≤ 140737488355328 := by rw [ByteArray.size_append]; have := HS.out; have := HM.out; omega
      have hp := lexL_placed s.data.toList
      rw [HH.out] at hp
      have ha : a ≤ 1500 := by have := hp.1; have := HS.out; rw [list_size] at *; omega
      have hx : x ≤ 91 := by rcases hp.2 with h | h | h <;> omega
      have hb2 : b ≤ 2000 := by have := HM.out; omega
      have hbi : ((b : Int) - (a : Int) != (Hd.size : Int)) = false := by simp; omega
      have hzi : (Hd.size : Int) ≤ 2000 := by have := HM.out; omega
      have hlex2 := fun w1 h1 => lex_err (Hd ++ s) b x w1 hTz h1 hll2
      generalize Hd ++ s = T at hlex2 ⊢
      refine (hlex2 _ (HRan.out.below HB2.out)).mono ?_
      rintro e w3 ⟨rfl, hB3⟩
      have HB3 := Lib.hid (HB2.out.trans (hB3.mono HB2.out.size))
      clear hB3 hlex2 hll hll2 hTz hp hb hz HLL
      go_wp2_with fail
      go_loop [13] (fun i => i = .int .i64 0) (fun i => 0)
      case atStart => rfl
      case round =>
        subst hrel
        go_wp2_with fail
        go_ret
        exact ⟨rfl, HB3.out⟩

set_option maxHeartbeats 4000000 in
set_option maxRecDepth 100000 in
theorem blanks_ok (s m : ByteArray) (w : World) (hs : s.size ≤ 140737488355328) (hm : m.size ≤ 140737488355328) (hr : Ran w) (hsm : s.size ≤ 1500) (hmm : m.size ≤ 400) (l : List Tok) (h : lexL s.data.toList = .ok l) :
    Calls Tryd.prog 4 #[.string s, .string m] w fun e w' => e = .returned (.bool true) ∧ Below w.heap.size w w' := by
  have hal := alive_any w hr
  have hlex := fun w1 h1 => lex_ok s l w1 hs h1 h
  have hd1 : decide ((1500 : Int) < (s.size : Int)) = false := by simp; omega
  have hd2 : decide ((400 : Int) < (m.size : Int)) = false := by simp; omega
  have HRan := Lib.hid hr
  have HH := Lib.hid h
  have HM := Lib.hid hmm
  have HS := Lib.hid hsm
  clear hr h hs hm
  go_enter Tryd.func4, Tryd.ntmps4
  go_wp2_with fail
  go_at_call 7
  refine hal.mono ?_
  rintro e w1 ⟨rfl, hB1⟩
  have HB1 := Lib.hid hB1
  clear hB1 hal
  go_wp2_with fail
  go_loop [5] (fun i => ∃ k : Nat, k ≤ m.size ∧ i = .int .i64 k ∧ ∀ j (hj : j < m.size), j < k → m[j].toNat ≠ 10) (fun i => m.size - (intOf i).toNat)
  case atStart => exact ⟨0, Nat.zero_le _, rfl, fun j _ h => by omega⟩
  case round =>
    obtain ⟨k, hk, rfl, hall⟩ := hrel
    have HA := Lib.hid hall
    clear hall
    rcases Nat.lt_or_ge k m.size with hlt | hge
    · by_cases hc : m[k].toNat = 10
      · have hc1 : ((m[k].toNat : Int) == 10) = true := by simp; omega
        have hc2 : (m[k].toNat == 10) = true := by simp; omega
        clear hc
        go_wp2_with fail
        go_ret
        exact ⟨rfl, HB1.out⟩
      · have hc1 : ((m[k].toNat : Int) == 10) = false := by simp; omega
        have hc2 : (m[k].toNat == 10) = false := by simp; omega
        have HC := Lib.hid hc
        clear hc
        go_wp2_with fail
        go_round
        case rel => exact ⟨k + 1, hlt, by go_num, fun j hj h => by
          rcases Nat.lt_or_ge j k with h' | h'
          · exact HA.out j hj h'
          · obtain rfl : j = k := by omega
            exact HC.out⟩
        case measure => simp [intOf]; omega
    · have hlin := all_lin (m := m) fun j hj => HA.out j hj (by omega)
      have hll := lexL_head m.data.toList s.data.toList hlin (by simpa using HS.out) (by simpa using HM.out)
      rw [← head_list] at hll
      clear hlin
      go_wp2_with fail
      go_at_call 8
      refine (hlex _ (HRan.out.below HB1.out)).mono ?_
      rintro e w2 ⟨⟨A, c, rfl, hRd⟩, hB2⟩
      have HB2 := Lib.hid (HB1.out.trans (hB2.mono HB1.out.size))
      have HRd := Lib.hid hRd
      clear hB2 hlex hRd
      have HLL := Lib.hid hll
      clear hll
      go_wp2_with fail
      go_at_call 8
      have hll := HLL.out
      have hz : (⟨#[32, 9, 45, 45]⟩ ++ m ++ ⟨#[10]⟩ : ByteArray).size = m.size + 5 := by rw [← list_size, head_list]; simp [headL]
      generalize (⟨#[32, 9, 45, 45]⟩ ++ m ++ ⟨#[10]⟩ : ByteArray) = Hd at hll hz ⊢
      rw [← append_list, HH.out, list_size] at hll
      have hll2 : lexL (Hd ++ s).data.toList = .ok (l.map (sh Hd.size)) := hll
      have hTz : (Hd ++ s).size ≤ 140737488355328 := by rw [ByteArray.size_append]; have := HS.out; have := HM.out; omega
      have hTe : (Hd ++ s).size = Hd.size + s.size := ByteArray.size_append
      have hp := lexL_placed s.data.toList
      rw [HH.out] at hp
      have HP : Hid (Placed s.data.toList l) := hp
      have hfew := hp.few
      have hlex2 := fun w1 h1 => lex_ok (Hd ++ s) (l.map (sh Hd.size)) w1 hTz h1 hll2
      rw [List.length_map] at hlex2
      generalize Hd ++ s = T at hlex2 hTe ⊢
      have hbi : ((T.size : Int) - (s.size : Int) != (Hd.size : Int)) = false := by simp; omega
      have hTi : (T.size : Int) ≤ 2000 := by have := HM.out; have := HS.out; omega
      have hzi : (Hd.size : Int) ≤ 2000 := by have := HM.out; omega
      have hsi : (s.size : Int) ≤ 2000 := by have := HS.out; omega
      have HZ := Lib.hid hz
      refine (hlex2 _ (HRan.out.below HB2.out)).mono ?_
      rintro e w3 ⟨⟨A2, c2, rfl, hRd2⟩, hB3⟩
      have HRdA := Lib.hid (HRd.out.below hB3)
      have HRd2 := Lib.hid hRd2
      have HSZ := Lib.hid hB3.size
      have HB3 := Lib.hid (HB2.out.trans (hB3.mono HB2.out.size))
      clear hB3 hlex2 hll hll2 hTz hTe hp hz HLL hRd2
      have hg := guard31
      go_wp2_with fail
      go_loopw [13] (fun i wr => ∃ k : Nat, k ≤ l.length ∧ i = .int .i64 k ∧ Below w3.heap.size w3 wr) (fun i _ => l.length - (intOf i).toNat)
      case atStart => exact ⟨0, Nat.zero_le _, rfl, Below.refl _ _⟩
      case round =>
        obtain ⟨k, hk, rfl, hB⟩ := hrel
        have HB := Lib.hid hB
        clear hB
        rcases Nat.lt_or_ge k l.length with hlt | hge
        · obtain ⟨ad, rfl, hb, k0, k1, k2, k3⟩ := ((HRdA.out.more HSZ.out).below HB.out).at_ (j := k) hlt
          obtain ⟨ad2, rfl, hb2, j0, j1, j2, j3⟩ := (HRd2.out.below HB.out).at_ (j := k) (by rw [List.length_map]; exact hlt)
          simp only [List.getElem_map, sh] at j0 j1 j2 j3
          have hat : l[k].at_ ≤ 1500 := by
            obtain ⟨c0, hc0, _⟩ := HP.out.all l[k] (List.getElem_mem hlt)
            have := (List.getElem?_eq_some_iff.1 hc0).1
            rw [list_size] at this
            have := HS.out
            omega
          generalize l[k] = t at k0 k1 k2 k3 j0 j1 j2 j3 hat
          obtain ⟨kk, tt, nn, aa⟩ := t
          simp only at k0 k1 k2 k3 j0 j1 j2 j3 hat
          obtain ⟨q, hq⟩ : ∃ q : Nat, q = aa + Hd.size := ⟨_, rfl⟩
          rw [← hq] at j3
          have hqi : (q : Int) - (Hd.size : Int) = (aa : Int) := by omega
          have hq1 : (q : Int) ≤ 4000 := by have := HM.out; have := HZ.out; omega
          have hT : Tkn (wr.alloc (.cells #[.int .i64 kk, .string ⟨tt.toArray⟩, .int .i64 nn, .int .i64 aa] 31)) wr.heap.size kk ⟨tt.toArray⟩ nn aa := heap_alloc_new wr _
          have hBn : Below wr.heap.size wr (wr.alloc (.cells #[.int .i64 kk, .string ⟨tt.toArray⟩, .int .i64 nn, .int .i64 aa] 31)) := (Below.refl _ _).alloc (Nat.le_refl _) _
          have HB5 := Lib.hid (HB.out.trans (hBn.mono HB.out.size))
          have HTn := Lib.hid hT
          have hadw : ad.block < wr.heap.size := by have := HB.out.size; omega
          have hcA := Cell4.below (t := ⟨kk, tt, nn, aa⟩) ⟨k0, k1, k2, k3⟩ hBn (by rw [add_block]; exact hadw)
          have HCA := Lib.hid hcA
          have hneq := run_same31 kk nn aa ⟨tt.toArray⟩
          have HQ := Lib.hid hq
          clear hBn hT hq hcA
          go_wp2_with fail
          generalize wr.alloc (.cells #[.int .i64 kk, .string ⟨tt.toArray⟩, .int .i64 nn, .int .i64 aa] 31) = wn at HTn HB5 HCA ⊢
          clear k0 k1 k2 k3 j0 j1 j2 j3
          obtain ⟨y0, y1, y2, y3, _, _, _, _⟩ := HTn.out.cells
          obtain ⟨x0, x1, x2, x3⟩ := HCA.out
          go_big_quiet (fail)
          go_wp2_with fail
          go_roundw
          case rel => exact ⟨k + 1, hlt, by go_num, below_drewN HB5.out _⟩
          case measure => simp [intOf]; omega
        · obtain rfl : k = l.length := by omega
          go_wp2_with fail
          go_ret
          exact ⟨rfl, HB3.out.trans (HB.out.mono HB3.out.size)⟩

theorem law_blanks (s m : ByteArray) (w : World) (hs : s.size ≤ 140737488355328) (hm : m.size ≤ 140737488355328) (hr : Ran w) :
    Calls Tryd.prog 4 #[.string s, .string m] w fun e w' => e = .returned (.bool true) ∧ Below w.heap.size w w' := by
  by_cases hb : 1500 < s.size ∨ 400 < m.size
  · exact blanks_big s m w hs hm hr hb
  · cases h : lexL s.data.toList with
    | ok l => exact blanks_ok s m w hs hm hr (by omega) (by omega) l h
    | err a x => exact blanks_err s m w hs hm hr (by omega) (by omega) a x h
end Go.Proofs.YtcliineiokgenaaDoor
