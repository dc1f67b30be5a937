/- What the listed package-level variables give a walk, and a start that meets them. Conditions: none. -/
import Derived.Test.YtcliineiokgenaaDoorRows
import Derived.Test.YtcliineiokgenaaDoorTie
import Derived.Test.YtcliineiokgenaaDoorVf
import Derived.ProofKit
import Derived.LaidMore
import Derived.OpenShut
import Derived.Stop.Joined
import Derived.Stop.LaidErr
import Derived.SizedLaws
import Derived.SevenTiedAt
import Derived.ChangeMaps5
namespace Go.Proofs.YtcliineiokgenaaDoor
open Go.ChangeShapes Go.WideShapes Go.ChangeAt Go.RowKit
set_option linter.unusedSimpArgs false
set_option linter.unusedVariables false

theorem own : ownKnob Tryd.prog.godebug = none := by kernel_rfl
def laid : List (String × DataW Unit) := Rows.lexBackRow.laid
theorem gER : Tryd.prog.globalNamed "strconv.ErrRange" = some 2 := by kernel_rfl
theorem tER : (Tryd.prog.globals[2]?).map (·.type) = some 47 := by kernel_rfl
theorem cells85 : Tryd.prog.cellsOf 85 = 1 := by kernel_rfl
theorem cells9 : Tryd.prog.cellsOf 9 = 1 := by kernel_rfl
theorem row83 (u : TypeId) (h : Tryd.prog.typeName? 3 u = Tryd.prog.typeName? 3 83) : u = 83 :=
  typeName_ptr_named (nm := "errors.errorString") (by first | kernel_rfl | decide) (by kernel_rfl) (by decide) u (h.trans (by first | kernel_rfl | decide))

theorem door_met (os : Os) (args : Array Value) : laidMetH Tryd.prog laid ((World.doorLaid Tryd.prog 400 os).forCall (fun _ _ => 0) ⟨#[], args, []⟩).memory :=
  laidMetH_of_parts3 (fuel := 8) (laidMet_of_run' 8 (by kernel_rfl) (by kernel_rfl)) (by kernel_rfl) (by kernel_rfl)

theorem ran_of_laid {W : World} (h : laidMetH Tryd.prog laid W) : Ran W := by
  rw [MakeChecks.laidMetH_plain _ _ _ (by kernel_rfl)] at h
  have h2 : laidMet Tryd.prog Rows.lexBackRow.laid W := h
  have h3 : laidMet Tryd.prog (("strconv.ErrRange", Rows.laid_strconv_ErrRange) :: [("strconv.ErrSyntax", Rows.laid_strconv_ErrSyntax)]) W := laidMet.tail (laidMet.tail (laidMet.tail h2))
  obtain ⟨a, s, hv, _, _, _⟩ := laid_sentinel h3 gER tER Tryd.underlying47 (fun u hu => row83 u (hu.trans (by kernel_rfl))) Tryd.underlying83 Tryd.underlying85 rfl rfl Tryd.underlying9 cells85 cells9
  have h0 := World.var?_cell gER hv 0
  exact ⟨83, _, by simpa using h0⟩
theorem short {H : Type} {ts : List TypeId} {ds : List (DataW H)} (h : (DataW.weightsEach Tryd.prog ts ds).all (· ≤ reachBytes) = true) {j : Nat} {t : TypeId} {s : ByteArray} (ht : ts[j]? = some t) (hd : ds[j]? = some (.lit (.string s.data.toList))) : s.size ≤ 140737488355328 := by
  have h1 := sized_string h ht hd
  have h2 := reachBytes_lt
  have e2 : s.data.toList.length = s.size := by simp
  have e3 : (2 : Nat) ^ 47 = 140737488355328 := by decide
  omega
end Go.Proofs.YtcliineiokgenaaDoor
