/- The reference's digits of a number, and its quoted text: the walks. Conditions: numbers that are not below 0; short texts. -/
import Derived.Test.YtnbgnofbeklmkaaDoorUa0
import Derived.Test.YtnbgnofbeklmkaaDoorTb
import Derived.Test.YtnbgnofbeklmkaaDoorTc
import Derived.Deep.LoopGhost
namespace Go.Proofs.YtnbgnofbeklmkaaDoor
open Go.RowKit
set_option linter.unusedSimpArgs false
set_option linter.unusedVariables false

theorem str_cons (d : UInt8) (l : List UInt8) : Value.string (⟨#[d]⟩ ++ ⟨l.toArray⟩) = .string ⟨(d :: l).toArray⟩ := by
  congr 1
theorem alist (a b : ByteArray) : (a ++ b).data.toList = a.data.toList ++ b.data.toList := by simp [ByteArray.data_append]

theorem conv_dig (m : Nat) (x : Int) (hx : x = 48 + (m : Int) % 10) (wr : World) : (convert 42 9 (.slice (some ⟨wr.heap.size, 0, none⟩) 1 1)).run Tryd.prog (wr.alloc (.cells #[.int .u8 x] 5)) = .ok (.string ⟨#[UInt8.ofNat (48 + m % 10)]⟩) (wr.alloc (.cells #[.int .u8 x] 5)) := by
  refine run_convert_bytes_back _ 42 9 5 ⟨wr.heap.size, 0, none⟩ 1 [UInt8.ofNat (48 + m % 10)] Tryd.underlying42 Tryd.underlying5 Tryd.underlying9 fun j hj => ?_
  have hj0 : j = 0 := by simp at hj; exact hj
  subst hj0
  have e : ((UInt8.ofNat (48 + m % 10)).toNat : Int) = x := by rw [digit_nat]; omega
  simp only [List.getElem_cons_zero, e]
  exact new_cells wr 5 [.int .u8 x] 0 _ rfl

theorem take_one (x : ByteArray) (j : Nat) (h : j < x.size) : (x.extract j (j + 1)).data.toList = [x[j]] := by
  have h2 : x.data.toList.drop j = x[j] :: x.data.toList.drop (j + 1) := by
    rw [List.drop_eq_getElem_cons (by simpa using h)]; rfl
  rw [ByteArray.data_extract, Array.toList_extract]
  simp [List.extract, h2]
theorem take_more (x : ByteArray) (j : Nat) (h : j < x.size) : x.data.toList.take (j + 1) = x.data.toList.take j ++ [x[j]] := by
  rw [List.take_succ_eq_append_getElem (by simpa using h)]; rfl
end Go.Proofs.YtnbgnofbeklmkaaDoor
