/-
  No cell of these rows narrows 'for every input' (looked for: loops, veiled, ifaces, maps, wideKeys, modest, calm, conditions, laid).
  DERIVED. THE GIVEN ROWS OF THIS SEAT. 5 by the template 'for every input the law returns true; each argument reads behind the call as it read before'; 0 by the template 'total and deterministic' (their statements: YtkpjkglheegmgaaTotals.lean).
  GIVEN WITH THE SEED: the statements are not yours to turn. If you find one false, say at which input.
  Laid BY PROGRAM, IN A SANDBOX (cutbox-rows.mjs): the forced cells as the released guide's own fill.sh prints them over the translation 2154f15280f28bdb… (all of the seat's roots in one cut). By AI agents, Wed Nov 11 2026. No macro, syntax, notation, axiom, sorry.
-/
import Derived.Test.YtkpjkglheegmgaaChecked
import GoSem.Claim
import GoSem.ClaimJoined
import GoSem.ClaimMapViews
import Derived.JoinedTies
import Derived.KernelRfl
namespace Go.Proofs.Ytkpjkglheegmgaa
/- THE CELL 'sum', in the pinned program and in every row, IS THE sha256 OF THE DUMP (.gsa) THAT YtkpjkglheegmgaaProg.lean LOADS. Nothing in Lean hashes anything: it is a label: what it is worth is what the hold of that sum in a sandbox is worth. -/
noncomputable def Try.pinned : Pinned := { name := "ytkpjkglheegmgaa", sum := "2154f15280f28bdbdd6f0e79154eb05610c9e3c96f262e4cf26133d6f61b2d3d", checked := Try.checked }
namespace Rows
def none {H : Type} : Left H := { results := [], args := [] }

/-- 'switchbacklaw12.BtreeTells': WHATEVER THE INPUT: true; the input reads as it did. -/
def btreeTellsSpec : ChangeSpec := { name := "btreeTells", fn := fun _ => fun
  | [d1, d2, d3] => { results := [.lit (.bool true)], args := [d1, d2, d3] }
  | _ => none }
def btreeTellsRow : OpenClaim := { program := "ytkpjkglheegmgaa", sum := "2154f15280f28bdbdd6f0e79154eb05610c9e3c96f262e4cf26133d6f61b2d3d", func := "switchback/switchbacklaw12.BtreeTells", spec := "btreeTells", unfollowed := true, recurses := true, apart := false }
def BtreeTellsSaid : Prop := btreeTellsRow.holds Try.pinned (OpenSpec.ofChange btreeTellsSpec)

/-- ITS FALSE NEIGHBOUR: 'it returns false'. Refute it at one input. -/
def btreeTellsWrong : ChangeSpec := { name := "btreeTells", fn := fun _ => fun
  | [d1, d2, d3] => { results := [.lit (.bool false)], args := [d1, d2, d3] }
  | _ => none }
def BtreeTellsWrongFalsely : Prop := btreeTellsRow.holds Try.pinned (OpenSpec.ofChange btreeTellsWrong)

/-- 'switchbacklaw12.BtreePuts': WHATEVER THE INPUT: true; the input reads as it did. -/
def btreePutsSpec : ChangeSpec := { name := "btreePuts", fn := fun _ => fun
  | [d1, d2, d3] => { results := [.lit (.bool true)], args := [d1, d2, d3] }
  | _ => none }
def btreePutsRow : OpenClaim := { program := "ytkpjkglheegmgaa", sum := "2154f15280f28bdbdd6f0e79154eb05610c9e3c96f262e4cf26133d6f61b2d3d", func := "switchback/switchbacklaw12.BtreePuts", spec := "btreePuts", unfollowed := true, recurses := true, apart := false }
def BtreePutsSaid : Prop := btreePutsRow.holds Try.pinned (OpenSpec.ofChange btreePutsSpec)

/-- ITS FALSE NEIGHBOUR: 'it returns false'. Refute it at one input. -/
def btreePutsWrong : ChangeSpec := { name := "btreePuts", fn := fun _ => fun
  | [d1, d2, d3] => { results := [.lit (.bool false)], args := [d1, d2, d3] }
  | _ => none }
def BtreePutsWrongFalsely : Prop := btreePutsRow.holds Try.pinned (OpenSpec.ofChange btreePutsWrong)

/-- 'switchbacklaw12.BtreeMap': WHATEVER THE INPUT: true; the input reads as it did. -/
def btreeMapSpec : ChangeSpec := { name := "btreeMap", fn := fun _ => fun
  | [d1, d2] => { results := [.lit (.bool true)], args := [d1, d2] }
  | _ => none }
def btreeMapRow : OpenClaim := { program := "ytkpjkglheegmgaa", sum := "2154f15280f28bdbdd6f0e79154eb05610c9e3c96f262e4cf26133d6f61b2d3d", func := "switchback/switchbacklaw12.BtreeMap", spec := "btreeMap", unfollowed := true, recurses := true, apart := false }
def BtreeMapSaid : Prop := btreeMapRow.holds Try.pinned (OpenSpec.ofChange btreeMapSpec)

/-- ITS FALSE NEIGHBOUR: 'it returns false'. Refute it at one input. -/
def btreeMapWrong : ChangeSpec := { name := "btreeMap", fn := fun _ => fun
  | [d1, d2] => { results := [.lit (.bool false)], args := [d1, d2] }
  | _ => none }
def BtreeMapWrongFalsely : Prop := btreeMapRow.holds Try.pinned (OpenSpec.ofChange btreeMapWrong)

/-- 'switchbacklaw12.BtreeDeep': WHATEVER THE INPUT: true; the input reads as it did. -/
def btreeDeepSpec : ChangeSpec := { name := "btreeDeep", fn := fun _ => fun
  | [d] => { results := [.lit (.bool true)], args := [d] }
  | _ => none }
def btreeDeepRow : OpenClaim := { program := "ytkpjkglheegmgaa", sum := "2154f15280f28bdbdd6f0e79154eb05610c9e3c96f262e4cf26133d6f61b2d3d", func := "switchback/switchbacklaw12.BtreeDeep", spec := "btreeDeep", unfollowed := true, recurses := true, apart := false }
def BtreeDeepSaid : Prop := btreeDeepRow.holds Try.pinned (OpenSpec.ofChange btreeDeepSpec)

/-- ITS FALSE NEIGHBOUR: 'it returns false'. Refute it at one input. -/
def btreeDeepWrong : ChangeSpec := { name := "btreeDeep", fn := fun _ => fun
  | [d] => { results := [.lit (.bool false)], args := [d] }
  | _ => none }
def BtreeDeepWrongFalsely : Prop := btreeDeepRow.holds Try.pinned (OpenSpec.ofChange btreeDeepWrong)

/-- 'switchbacklaw12.BtreeAll': WHATEVER THE INPUT: true; the input reads as it did. -/
def btreeAllSpec : ChangeSpec := { name := "btreeAll", fn := fun _ => fun
  | [d1, d2] => { results := [.lit (.bool true)], args := [d1, d2] }
  | _ => none }
def btreeAllRow : OpenClaim := { program := "ytkpjkglheegmgaa", sum := "2154f15280f28bdbdd6f0e79154eb05610c9e3c96f262e4cf26133d6f61b2d3d", func := "switchback/switchbacklaw12.BtreeAll", spec := "btreeAll", unfollowed := true, recurses := true, apart := false }
def BtreeAllSaid : Prop := btreeAllRow.holds Try.pinned (OpenSpec.ofChange btreeAllSpec)

/-- ITS FALSE NEIGHBOUR: 'it returns false'. Refute it at one input. -/
def btreeAllWrong : ChangeSpec := { name := "btreeAll", fn := fun _ => fun
  | [d1, d2] => { results := [.lit (.bool false)], args := [d1, d2] }
  | _ => none }
def BtreeAllWrongFalsely : Prop := btreeAllRow.holds Try.pinned (OpenSpec.ofChange btreeAllWrong)

/- THE SECOND FORM. 'bulk': how many values and letters a reading holds, each counted each time it is reached (what is shared counts as often as it is met; a slice's spare places count too). A statement '..UptoSaid' is the law's where the arguments, and the package variables that the reading takes, are together of bulk at most 1048576: NARROWER than '..Said'. Prove '..Said' where nothing that the law and all that it calls make is longer than what came in: it says more and counts as full. Else prove '..UptoSaid'. A law counts once. -/
mutual
def uptoBulk {H : Type} : DataW H → Nat
  | .lit (.string bytes) => bytes.length + 1
  | .lit _ => 1
  | .nil => 1
  | .ptr d => uptoBulk d + 1
  | .slice elems spare => uptoBulkAll elems + uptoBulkAll spare + 1
  | .agg parts => uptoBulkAll parts + 1
  | .iface _ d => uptoBulk d + 1
  | .map entries => uptoBulkEntries entries + 1
  | .held _ => 1
def uptoBulkAll {H : Type} : List (DataW H) → Nat
  | [] => 0
  | d :: r => uptoBulk d + uptoBulkAll r
def uptoBulkEntries {H : Type} : List (Lit × DataW H) → Nat
  | [] => 0
  | x :: r => uptoBulkEntry x + uptoBulkEntries r
def uptoBulkEntry {H : Type} : Lit × DataW H → Nat
  | (.string bytes, d) => bytes.length + uptoBulk d + 1
  | (_, d) => uptoBulk d + 1
 end
def uptoSmall : (H : Type) → List (DataW H) → Bool := fun _ ds => decide (uptoBulkAll ds ≤ 1048576)
def OpenSpec.upto (s : _root_.Go.ChangeSpec) : _root_.Go.OpenSpec := { _root_.Go.OpenSpec.ofChange s with cond := some uptoSmall }

/-- 'switchbacklaw12.BtreeTells', WHERE WHAT IT READS IS OF BULK AT MOST 1048576: true; the input reads as it did. -/
def btreeTellsUptoRow : OpenClaim := { program := "ytkpjkglheegmgaa", sum := "2154f15280f28bdbdd6f0e79154eb05610c9e3c96f262e4cf26133d6f61b2d3d", func := "switchback/switchbacklaw12.BtreeTells", spec := "btreeTells", unfollowed := true, recurses := true, apart := false, narrowed := true }
def BtreeTellsUptoSaid : Prop := btreeTellsUptoRow.holds Try.pinned (OpenSpec.upto btreeTellsSpec)

/-- 'switchbacklaw12.BtreePuts', WHERE WHAT IT READS IS OF BULK AT MOST 1048576: true; the input reads as it did. -/
def btreePutsUptoRow : OpenClaim := { program := "ytkpjkglheegmgaa", sum := "2154f15280f28bdbdd6f0e79154eb05610c9e3c96f262e4cf26133d6f61b2d3d", func := "switchback/switchbacklaw12.BtreePuts", spec := "btreePuts", unfollowed := true, recurses := true, apart := false, narrowed := true }
def BtreePutsUptoSaid : Prop := btreePutsUptoRow.holds Try.pinned (OpenSpec.upto btreePutsSpec)

/-- 'switchbacklaw12.BtreeMap', WHERE WHAT IT READS IS OF BULK AT MOST 1048576: true; the input reads as it did. -/
def btreeMapUptoRow : OpenClaim := { program := "ytkpjkglheegmgaa", sum := "2154f15280f28bdbdd6f0e79154eb05610c9e3c96f262e4cf26133d6f61b2d3d", func := "switchback/switchbacklaw12.BtreeMap", spec := "btreeMap", unfollowed := true, recurses := true, apart := false, narrowed := true }
def BtreeMapUptoSaid : Prop := btreeMapUptoRow.holds Try.pinned (OpenSpec.upto btreeMapSpec)

/-- 'switchbacklaw12.BtreeDeep', WHERE WHAT IT READS IS OF BULK AT MOST 1048576: true; the input reads as it did. -/
def btreeDeepUptoRow : OpenClaim := { program := "ytkpjkglheegmgaa", sum := "2154f15280f28bdbdd6f0e79154eb05610c9e3c96f262e4cf26133d6f61b2d3d", func := "switchback/switchbacklaw12.BtreeDeep", spec := "btreeDeep", unfollowed := true, recurses := true, apart := false, narrowed := true }
def BtreeDeepUptoSaid : Prop := btreeDeepUptoRow.holds Try.pinned (OpenSpec.upto btreeDeepSpec)

/-- 'switchbacklaw12.BtreeAll', WHERE WHAT IT READS IS OF BULK AT MOST 1048576: true; the input reads as it did. -/
def btreeAllUptoRow : OpenClaim := { program := "ytkpjkglheegmgaa", sum := "2154f15280f28bdbdd6f0e79154eb05610c9e3c96f262e4cf26133d6f61b2d3d", func := "switchback/switchbacklaw12.BtreeAll", spec := "btreeAll", unfollowed := true, recurses := true, apart := false, narrowed := true }
def BtreeAllUptoSaid : Prop := btreeAllUptoRow.holds Try.pinned (OpenSpec.upto btreeAllSpec)

end Rows
end Go.Proofs.Ytkpjkglheegmgaa
