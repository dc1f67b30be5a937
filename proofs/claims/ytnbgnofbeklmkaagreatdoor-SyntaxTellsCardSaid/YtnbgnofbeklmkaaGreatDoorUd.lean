/- The reference's digits of a number, and its quoted text: the walks. Conditions: numbers that are not below 0; short texts. -/
import Derived.Test.YtnbgnofbeklmkaaGreatDoorUa0
import Derived.Test.YtnbgnofbeklmkaaGreatDoorTb
import Derived.Test.YtnbgnofbeklmkaaGreatDoorTc
import Derived.Deep.LoopGhost
namespace Go.Proofs.YtnbgnofbeklmkaaGreatDoor
open Go.RowKit
set_option linter.unusedSimpArgs false
set_option linter.unusedVariables false

theorem str_cons (d : UInt8) (l : List UInt8) : Value.string (⟨#[d]⟩ ++ ⟨l.toArray⟩) = .string ⟨(d :: l).toArray⟩ := by
  congr 1
theorem alist (a b : ByteArray) : (a ++ b).data.toList = a.data.toList ++ b.data.toList := by simp [ByteArray.data_append]

theorem conv_dig (m : Nat) (x : Int) (hx : x = 48 + (m : Int) % 10) (wr : World) : (convert 62 9 (.slice (some ⟨wr.heap.size, 0, none⟩) 1 1)).run Tryz.prog (wr.alloc (.cells #[.int .u8 x] 5)) = .ok (.string ⟨#[UInt8.ofNat (48 + m % 10)]⟩) (wr.alloc (.cells #[.int .u8 x] 5)) := by
  refine run_convert_bytes_back _ 62 9 5 ⟨wr.heap.size, 0, none⟩ 1 [UInt8.ofNat (48 + m % 10)] Tryz.underlying62 Tryz.underlying5 Tryz.underlying9 fun j hj => ?_
  have hj0 : j = 0 := by simp at hj; exact hj
  subst hj0
  have e : ((UInt8.ofNat (48 + m % 10)).toNat : Int) = x := by rw [digit_nat]; omega
  simp only [List.getElem_cons_zero, e]
  exact new_cells wr 5 [.int .u8 x] 0 _ rfl

set_option maxHeartbeats 1000000 in
set_option maxRecDepth 100000 in
theorem rDecimal_any (n : Nat) (hn : n ≤ 9223372036854775807) (w : World) :
    Calls Tryz.prog 78 #[.int .i64 n] w fun e w' => e = .returned (.string ⟨(dec n).toArray⟩) ∧ Below w.heap.size w w' := by
  have hD : dec n = decA 20 n [] := rfl
  generalize dec n = D at hD ⊢
  have HD := Lib.hid hD
  have HN := Lib.hid hn
  have hn0 : decide ((n : Int) < 0) = false := by simp
  clear hD hn
  go_enter Tryz.func78, Tryz.ntmps78
  go_wp2_with fail
  go_loopg [3, 4] 20 (fun f s v wr => ∃ (acc : List UInt8) (m : Nat), s = .string ⟨acc.toArray⟩ ∧ v = .int .i64 m ∧ m ≤ n ∧ m < 10 ^ f ∧ (acc = [] → 0 < f) ∧ acc.length + f = 20 ∧ D = decA f m acc ∧ Below w.heap.size w wr)
  case atStart => exact ⟨[], n, rfl, rfl, Nat.le_refl _, by have := HN.out; omega, fun _ => by omega, rfl, HD.out, Below.refl _ _⟩
  case round =>
    obtain ⟨acc, m, rfl, rfl, hmn, hmf, hf, hlen, hD, hB⟩ := hrel
    have HMN := Lib.hid hmn
    have HB := Lib.hid hB
    have HD1 := Lib.hid hD
    have HMF := Lib.hid hmf
    have HF := Lib.hid hf
    clear hB hD hmf hf
    have hm0 : (0 : Int) ≤ (m : Int) := by omega
    have hm1 : (m : Int) ≤ 9223372036854775807 := by have := HN.out; omega
    have hmd : decide ((m : Int) % 10 < 0) = false := by simp; omega
    clear hmn
    have hxl : (⟨acc.toArray⟩ : ByteArray).toList = acc := by rw [ByteArray.toList_eq]
    generalize hX : (⟨acc.toArray⟩ : ByteArray) = X at hxl ⊢
    have hxs : X.size ≤ 20 := by rw [← hX, ← bsz]; simp; omega
    have HLEN := Lib.hid hlen
    clear hlen
    have HXL := Lib.hid hxl
    have HX := Lib.hid hX
    clear hxl hX
    rcases Nat.eq_zero_or_pos m with h0 | hpos
    · subst h0
      have hconv := conv_dig 0 48 rfl wr
      generalize hdd : UInt8.ofNat (48 + 0 % 10) = d at hconv
      have HDD := Lib.hid hdd
      clear hdd hm0 hm1 hmd
      by_cases ha : acc = []
      · have e1 : (X.toList == []) = true := by rw [HXL.out, ha]; rfl
        have e2 : X.toList.isEmpty = true := by rw [HXL.out, ha]; rfl
        obtain ⟨f', rfl⟩ : ∃ f', gk = f' + 1 := ⟨gk - 1, by have := HF.out ha; omega⟩
        have HGO : Hid (¬ ((0 : Nat) = 0 ∧ acc ≠ [])) := fun h => h.2 ha
        clear ha
        go_wp2_with fail
        go_roundg f'
        case measure => exact Nat.lt_succ_self _
        case rel =>
          refine ⟨d :: acc, 0, ?_, rfl, by omega, Nat.pow_pos (by decide), (fun e => by cases e), by have := HLEN.out; simp; omega, ?_, HB.out.alloc HB.out.size _⟩
          · rw [← HX.out]; exact str_cons _ _
          · rw [HD1.out, decA, if_neg (fun h => HGO.out ⟨trivial, h.2⟩), HDD.out]
      · have e1 : (X.toList == []) = false := by rw [HXL.out]; simpa using ha
        have e2 : X.toList.isEmpty = false := by rw [HXL.out]; simpa using ha
        have HE : Hid (D = acc) := by
          show _ = _
          rw [HD1.out]
          cases gk with
          | zero => rfl
          | succ f => rw [decA, if_pos ⟨rfl, ha⟩]
        clear ha hconv
        go_wp2_with fail
        go_ret
        exact ⟨ret_str (by rw [HE.out, HX.out]), HB.out⟩
    · have d1 : ((m : Int) == 0) = false := by simp; omega
      have d1' : (m == 0) = false := by simp; omega
      have d1'' : ¬ m = 0 := by omega
      have hconv := conv_dig m (48 + (m : Int) % 10) rfl wr
      generalize hdd : UInt8.ofNat (48 + m % 10) = d at hconv
      have HDD := Lib.hid hdd
      clear hdd
      obtain ⟨f', rfl⟩ : ∃ f', gk = f' + 1 := ⟨gk - 1, by
        have := HMF.out
        rcases Nat.eq_zero_or_pos gk with e | e
        · rw [e] at this; simp at this; omega
        · omega⟩
      have HGO : Hid (¬ (m = 0 ∧ acc ≠ [])) := fun h => by omega
      go_wp2_with fail
      go_roundg f'
      case measure => exact Nat.lt_succ_self _
      case rel =>
        refine ⟨d :: acc, m / 10, ?_, by go_num, by have := HMN.out; omega, ?_, (fun e => by cases e), by have := HLEN.out; simp; omega, ?_, HB.out.alloc HB.out.size _⟩
        · rw [← HX.out]; exact str_cons _ _
        · have := HMF.out; rw [Nat.pow_succ] at this; exact Nat.div_lt_of_lt_mul (by omega)
        · rw [HD1.out, decA, if_neg HGO.out, HDD.out]
theorem take_one (x : ByteArray) (j : Nat) (h : j < x.size) : (x.extract j (j + 1)).data.toList = [x[j]] := by
  have h2 : x.data.toList.drop j = x[j] :: x.data.toList.drop (j + 1) := by
    rw [List.drop_eq_getElem_cons (by simpa using h)]; rfl
  rw [ByteArray.data_extract, Array.toList_extract]
  simp [List.extract, h2]
theorem take_more (x : ByteArray) (j : Nat) (h : j < x.size) : x.data.toList.take (j + 1) = x.data.toList.take j ++ [x[j]] := by
  rw [List.take_succ_eq_append_getElem (by simpa using h)]; rfl
end Go.Proofs.YtnbgnofbeklmkaaGreatDoor
