/- What a token is written as: the walk. Conditions: a token as the lexer tells it. -/
import Derived.Test.YtcliineiokgenaaDoorVp
import Derived.Test.YtcliineiokgenaaDoorMd
import Derived.Lib.ConvBytes
namespace Go.Proofs.YtcliineiokgenaaDoor
open Go.RowKit
set_option linter.unusedSimpArgs false
set_option linter.unusedVariables false

/-- Block b holds a token of the other type. -/
def Tk0 (w : World) (b : Nat) (a0 : Int) (a1 : ByteArray) (a2 a3 : Int) : Prop := w.heap[b]? = some (.cells #[.int .i64 a0, .string a1, .int .i64 a2, .int .i64 a3] 30 (0, 0))
theorem Tk0.lt {w : World} {b : Nat} {a0 : Int} {a1 : ByteArray} {a2 a3 : Int} (h : Tk0 w b a0 a1 a2 a3) : b < w.heap.size := by
  rcases Nat.lt_or_ge b w.heap.size with h' | h'
  · exact h'
  · unfold Tk0 at h; rw [Array.getElem?_eq_none h'] at h; cases h
theorem Tk0.below {w w' : World} {b B : Nat} {a0 : Int} {a1 : ByteArray} {a2 a3 : Int} (h : Tk0 w b a0 a1 a2 a3) (hb : Below B w w') (hlt : b < B) : Tk0 w' b a0 a1 a2 a3 := (hb.block b hlt).trans h
theorem Tk0.cells {w : World} {b : Nat} {a0 : Int} {a1 : ByteArray} {a2 a3 : Int} (h : Tk0 w b a0 a1 a2 a3) :
    w.cell? ⟨b, 0, none⟩ = some (.int .i64 a0) ∧ w.cell? ⟨b, 1, none⟩ = some (.string a1) ∧ w.cell? ⟨b, 2, none⟩ = some (.int .i64 a2) ∧ w.cell? ⟨b, 3, none⟩ = some (.int .i64 a3) ∧
    w.frozen? ⟨b, 3, none⟩ = false := by
  unfold Tk0 at h
  refine ⟨?_, ?_, ?_, ?_, ?_⟩ <;> simp [World.cell?, World.frozen?, h]

set_option maxHeartbeats 1000000 in
theorem written_plain (k : Nat) (hk : k = 1 ∨ k = 4) (x : ByteArray) (n a : Int) (w : World) :
    Calls Tryd.prog 10 #[.agg #[.int .i64 k, .string x, .int .i64 n, .int .i64 a]] w fun e w' => e = .returned (.string x) ∧ Below w.heap.size w w' := by
  rcases hk with rfl | rfl
  all_goals
    go_enter Tryd.func10, Tryd.ntmps10
    go_wp2
    go_ret
    exact ⟨rfl, (Below.refl _ _).alloc (Nat.le_refl _) _⟩

theorem bsize (a : ByteArray) : a.data.toList.length = a.size := by simp
theorem str_cons (d : UInt8) (l : List UInt8) : Value.string (⟨#[d]⟩ ++ ⟨l.toArray⟩) = .string ⟨(d :: l).toArray⟩ := by
  congr 1
set_option maxHeartbeats 1000000 in
set_option maxRecDepth 100000 in
theorem written_num (x : ByteArray) (n : Nat) (hn : n ≤ 9223372036854775807) (a : Int) (w : World) :
    Calls Tryd.prog 10 #[.agg #[.int .i64 2, .string x, .int .i64 n, .int .i64 a]] w fun e w' => e = .returned (.string ⟨(dec n).toArray⟩) ∧ Below w.heap.size w w' := by
  have hD : dec n = decA 20 n [] := rfl
  generalize dec n = D at hD ⊢
  have HD := Lib.hid hD
  have HN := Lib.hid hn
  clear hD hn
  go_enter Tryd.func10, Tryd.ntmps10
  go_wp2_with fail
  go_loopg [3, 4] 20 (fun f s v wr => ∃ (acc : List UInt8) (m : Nat), s = .string ⟨acc.toArray⟩ ∧ v = .int .i64 m ∧ m ≤ n ∧ m < 10 ^ f ∧ (acc = [] → 0 < f) ∧ acc.length + f = 20 ∧ D = decA f m acc ∧ Below w.heap.size w wr)
  case atStart => exact ⟨[], n, rfl, rfl, Nat.le_refl _, by have := HN.out; omega, fun _ => by omega, rfl, HD.out, (Below.refl _ _).alloc (Nat.le_refl _) _⟩
  case round =>
    obtain ⟨acc, m, rfl, rfl, hmn, hmf, hf, hlen, hD, hB⟩ := hrel
    have HMN := Lib.hid hmn
    have HB := Lib.hid hB
    have HD1 := Lib.hid hD
    have HMF := Lib.hid hmf
    have HF := Lib.hid hf
    clear hB hD hmf hf
    have hm0 : (0 : Int) ≤ (m : Int) := by omega
    have hm1 : (m : Int) ≤ 9223372036854775807 := by have := HN.out; omega
    clear hmn
    have hxl : (⟨acc.toArray⟩ : ByteArray).toList = acc := by rw [ByteArray.toList_eq]
    generalize hX : (⟨acc.toArray⟩ : ByteArray) = X at hxl ⊢
    have hxs : X.size ≤ 20 := by rw [← hX, ← bsize]; simp; omega
    have HLEN := Lib.hid hlen
    clear hlen
    have HXL := Lib.hid hxl
    have HX := Lib.hid hX
    clear hxl hX
    have hconv : (convert 41 9 (.slice (some ⟨wr.heap.size, 0, none⟩) 1 1)).run Tryd.prog (wr.alloc (.cells #[.int .u8 (48 + (m : Int) % 10)] 5)) = .ok (.string ⟨#[UInt8.ofNat (48 + m % 10)]⟩) (wr.alloc (.cells #[.int .u8 (48 + (m : Int) % 10)] 5)) := by
      refine run_convert_bytes_back _ 41 9 5 ⟨wr.heap.size, 0, none⟩ 1 [UInt8.ofNat (48 + m % 10)] Tryd.underlying41 Tryd.underlying5 Tryd.underlying9 fun j hj => ?_
      have hj0 : j = 0 := by simp at hj; exact hj
      subst hj0
      have e : ((UInt8.ofNat (48 + m % 10)).toNat : Int) = 48 + (m : Int) % 10 := by rw [digit_nat]; omega
      simp only [List.getElem_cons_zero, e]
      simpa using cells_new wr [.int .u8 (48 + (m : Int) % 10)] 5 0 _ rfl
    generalize hdd : UInt8.ofNat (48 + m % 10) = d at hconv
    have HDD := Lib.hid hdd
    clear hdd
    rcases Nat.eq_zero_or_pos m with h0 | hpos
    · have d1 : decide ((0 : Int) < (m : Int)) = false := by simp; omega
      have d1' : decide (0 < m) = false := by simp; omega
      by_cases ha : acc = []
      · have e1 : (X.toList == []) = true := by rw [HXL.out, ha]; rfl
        have e2 : X.toList.isEmpty = true := by rw [HXL.out, ha]; rfl
        obtain ⟨f', rfl⟩ : ∃ f', gk = f' + 1 := ⟨gk - 1, by have := HF.out ha; omega⟩
        have HGO : Hid (¬ (m = 0 ∧ acc ≠ [])) := fun h => h.2 ha
        clear ha h0
        go_wp2_with fail
        go_roundg f'
        case measure => exact Nat.lt_succ_self _
        case rel =>
          refine ⟨d :: acc, m / 10, ?_, by go_num, by have := HMN.out; omega, ?_, (fun e => by cases e), by have := HLEN.out; simp; omega, ?_, HB.out.alloc HB.out.size _⟩
          · rw [← HX.out]; exact str_cons _ _
          · have := HMF.out; rw [Nat.pow_succ] at this; exact Nat.div_lt_of_lt_mul (by omega)
          · rw [HD1.out, decA, if_neg HGO.out, HDD.out]
      · have e1 : (X.toList == []) = false := by rw [HXL.out]; simpa using ha
        have e2 : X.toList.isEmpty = false := by rw [HXL.out]; simpa using ha
        have HE : Hid (D = acc) := by
          show _ = _
          rw [HD1.out]
          cases gk with
          | zero => rfl
          | succ f => rw [decA, if_pos ⟨h0, ha⟩]
        clear ha h0 hconv
        go_wp2_with fail
        go_ret
        exact ⟨ret_str (by rw [HE.out, HX.out]), HB.out⟩
    · have d1 : decide ((0 : Int) < (m : Int)) = true := by simp; omega
      have d1' : decide (0 < m) = true := by simp; omega
      obtain ⟨f', rfl⟩ : ∃ f', gk = f' + 1 := ⟨gk - 1, by
        have := HMF.out
        rcases Nat.eq_zero_or_pos gk with h | h
        · subst h; simp at this; omega
        · omega⟩
      have HGO : Hid (¬ (m = 0 ∧ acc ≠ [])) := fun h => by omega
      clear hpos
      go_wp2_with fail
      go_roundg f'
      case measure => exact Nat.lt_succ_self _
      case rel =>
        refine ⟨d :: acc, m / 10, ?_, by go_num, by have := HMN.out; omega, ?_, (fun e => by cases e), by have := HLEN.out; simp; omega, ?_, HB.out.alloc HB.out.size _⟩
        · rw [← HX.out]; exact str_cons _ _
        · have := HMF.out; rw [Nat.pow_succ] at this; exact Nat.div_lt_of_lt_mul (by omega)
        · rw [HD1.out, decA, if_neg HGO.out, HDD.out]
end Go.Proofs.YtcliineiokgenaaDoor
