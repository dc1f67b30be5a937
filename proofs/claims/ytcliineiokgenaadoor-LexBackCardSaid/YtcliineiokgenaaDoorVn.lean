/- What Keyword answers: the walk. Conditions: a text's length as every machine keeps it. -/
import Derived.Test.YtcliineiokgenaaDoorVm
namespace Go.Proofs.YtcliineiokgenaaDoor
open Go.RowKit
set_option linter.unusedSimpArgs false
set_option linter.unusedVariables false

def kwl : List (List UInt8) := [[99, 114, 101, 97, 116, 101], [116, 97, 98, 108, 101], [105, 110, 100, 101, 120], [111, 110], [100, 114, 111, 112], [105, 110, 115, 101, 114, 116], [105, 110, 116, 111], [118, 97, 108, 117, 101, 115], [117, 112, 100, 97, 116, 101], [115, 101, 116], [100, 101, 108, 101, 116, 101], [102, 114, 111, 109], [119, 104, 101, 114, 101], [115, 101, 108, 101, 99, 116], [106, 111, 105, 110], [103, 114, 111, 117, 112], [98, 121], [111, 114, 100, 101, 114], [100, 101, 115, 99], [108, 105, 109, 105, 116], [98, 101, 103, 105, 110], [99, 111, 109, 109, 105, 116], [114, 111, 108, 108, 98, 97, 99, 107], [112, 114, 105, 109, 97, 114, 121], [107, 101, 121], [110, 111, 116], [110, 117, 108, 108], [105, 115], [97, 110, 100], [111, 114], [116, 114, 117, 101], [102, 97, 108, 115, 101], [105, 110, 116], [98, 111, 111, 108], [116, 101, 120, 116], [99, 111, 117, 110, 116], [115, 117, 109], [109, 105, 110], [109, 97, 120]]
/-- Whether small letters are a keyword. -/
def kwB (x : ByteArray) : Bool := kwl.contains x.toList

theorem tf {a : Bool} (h1 : a = true) (h2 : a = false) : False := by rw [h1] at h2; cases h2
theorem kw_yes {b : Bool} {x : ByteArray} {l : List UInt8} (h : b = kwl.contains x.toList) (h1 : (x.toList == l) = true) (h2 : kwl.contains l = true) : true = b := by
  rw [h, eq_of_beq h1, h2]

set_option maxHeartbeats 8000000 in
theorem keyword_any (s : ByteArray) (w : World) (hs : s.size ≤ 140737488355328) :
    Calls Tryd.prog 13 #[.string s] w fun e w' => e = .returned (.bool (kwB (lowS s))) ∧ Below w.heap.size w w' := by
  have hL := lower_any s w hs
  generalize lowS s = x at hL ⊢
  have hK : kwB x = kwl.contains x.toList := rfl
  generalize kwB x = b at hK ⊢
  have HK := Lib.hid hK
  clear hK
  go_enter Tryd.func13, Tryd.ntmps13
  go_wp2_with (go_at_call 12; refine hL.mono ?_; rintro e w2 ⟨rfl, hB⟩)
  all_goals clear hL
  all_goals first
    | exact (tf (by assumption) (by assumption)).elim
    | (go_ret; exact ⟨ret_bool (kw_yes HK.out (by assumption) (by decide)), by assumption⟩)
    | (go_ret; exact ⟨ret_bool (by rw [HK.out]; simp only [kwl, List.contains_cons, List.contains_nil, *, Bool.or_false]), by assumption⟩)
end Go.Proofs.YtcliineiokgenaaDoor
