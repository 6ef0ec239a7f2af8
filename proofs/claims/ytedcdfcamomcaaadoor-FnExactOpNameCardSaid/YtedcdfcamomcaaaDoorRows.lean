/-
  NARROWER THAN 'FOR EVERY INPUT', by the rows' own cells (each row's printed sentence says how): FnUses: laid · FnExactOpName: laid.
  DERIVED. THE GIVEN ROWS OF THIS SEAT. 2 by the template 'for every input the law returns true; each argument reads behind the call as it read before'; 0 by the template 'total and deterministic' (their statements: YtedcdfcamomcaaaDoorTotals.lean).
  GIVEN WITH THE SEED: the statements are not yours to turn. If you find one false, say at which input.
  Laid BY PROGRAM, IN A SANDBOX (cutbox-rows.mjs): the forced cells as the released guide's own fill.sh prints them over the translation e4289bab069f181c… (all of the seat's roots in one cut). By AI agents, Wed Nov 11 2026. No macro, syntax, notation, axiom, sorry.
-/
import Derived.Test.YtedcdfcamomcaaaDoorChecked
import GoSem.Claim
import GoSem.ClaimJoined
import GoSem.ClaimMapViews
import Derived.JoinedTies
import Derived.KernelRfl
namespace Go.Proofs.YtedcdfcamomcaaaDoor
/- THE CELL 'sum', in the pinned program and in every row, IS THE sha256 OF THE DUMP (.gsa) THAT YtedcdfcamomcaaaDoorProg.lean LOADS. Nothing in Lean hashes anything: it is a label: what it is worth is what the hold of that sum in a sandbox is worth. -/
noncomputable def Tryd.pinned : Pinned := { name := "ytedcdfcamomcaaadoor", sum := "e4289bab069f181c597170bef4dbc9a58682477c90e69df287e0794cd1374dca", checked := Tryd.checked }
namespace Rows
def none {H : Type} : Left H := { results := [], args := [] }

/- WHAT THE LISTED PACKAGE-LEVEL VARIABLES READ AS WHEN THE CALL BEGINS. Each datum BY PROGRAM (the guide's laid-datum.mjs) off the statement by which the dump's own 'gosem.cut.vars' lays the variable. In a bare row this is a premise. The card (YtedcdfcamomcaaaDoorCards.lean) ties it to the program's text. -/
def laid_loop_example_g00985_impl_opNames {H : Type} : DataW H := .agg [.lit (.string [110, 111, 112]), .lit (.string [115, 101, 116]), .lit (.string [109, 111, 118, 101]), .lit (.string [97, 100, 100]), .lit (.string [115, 117, 98]), .lit (.string [109, 117, 108]), .lit (.string [120, 111, 114]), .lit (.string [108, 101, 115, 115]), .lit (.string [115, 101, 108, 102]), .lit (.string [112, 105, 99, 107]), .lit (.string [122, 101, 114, 111]), .lit (.string [106, 117, 109, 112]), .lit (.string [104, 97, 108, 116]), .lit (.string [108, 111, 97, 100]), .lit (.string [115, 116, 111, 114, 101]), .lit (.string [98, 117, 109, 112]), .lit (.string [98, 97, 114, 114, 105, 101, 114])]

/-- 'laws.FnUses': WHATEVER THE INPUT: true; the input reads as it did. -/
def fnUsesSpec : ChangeSpec := { name := "fnUses", vars := ["loop.example/g00985/impl.opNames"], fn := fun _ => fun
  | [d, g1] => { results := [.lit (.bool true)], args := [d], vars := [g1] }
  | _ => none }
def fnUsesRow : OpenClaim := { program := "ytedcdfcamomcaaadoor", sum := "e4289bab069f181c597170bef4dbc9a58682477c90e69df287e0794cd1374dca", func := "loop.example/g00985/laws.FnUses", spec := "fnUses", unfollowed := true, recurses := true, named := ["loop.example/g00985/impl.opNames"], apart := false, laid := [("loop.example/g00985/impl.opNames", laid_loop_example_g00985_impl_opNames)] }
def FnUsesSaid : Prop := fnUsesRow.holds Tryd.pinned (OpenSpec.ofChange fnUsesSpec)

/-- ITS FALSE NEIGHBOUR: 'it returns false'. Refute it at one input. -/
def fnUsesWrong : ChangeSpec := { name := "fnUses", vars := ["loop.example/g00985/impl.opNames"], fn := fun _ => fun
  | [d, g1] => { results := [.lit (.bool false)], args := [d], vars := [g1] }
  | _ => none }
def FnUsesWrongFalsely : Prop := fnUsesRow.holds Tryd.pinned (OpenSpec.ofChange fnUsesWrong)

/-- 'laws.FnExactOpName': WHATEVER THE INPUT: true; the input reads as it did. -/
def fnExactOpNameSpec : ChangeSpec := { name := "fnExactOpName", vars := ["loop.example/g00985/impl.opNames"], fn := fun _ => fun
  | [d, g1] => { results := [.lit (.bool true)], args := [d], vars := [g1] }
  | _ => none }
def fnExactOpNameRow : OpenClaim := { program := "ytedcdfcamomcaaadoor", sum := "e4289bab069f181c597170bef4dbc9a58682477c90e69df287e0794cd1374dca", func := "loop.example/g00985/laws.FnExactOpName", spec := "fnExactOpName", named := ["loop.example/g00985/impl.opNames"], apart := false, laid := [("loop.example/g00985/impl.opNames", laid_loop_example_g00985_impl_opNames)] }
def FnExactOpNameSaid : Prop := fnExactOpNameRow.holds Tryd.pinned (OpenSpec.ofChange fnExactOpNameSpec)

/-- ITS FALSE NEIGHBOUR: 'it returns false'. Refute it at one input. -/
def fnExactOpNameWrong : ChangeSpec := { name := "fnExactOpName", vars := ["loop.example/g00985/impl.opNames"], fn := fun _ => fun
  | [d, g1] => { results := [.lit (.bool false)], args := [d], vars := [g1] }
  | _ => none }
def FnExactOpNameWrongFalsely : Prop := fnExactOpNameRow.holds Tryd.pinned (OpenSpec.ofChange fnExactOpNameWrong)

/- THE SECOND FORM. 'bulk': how many values and letters a reading holds, each counted each time it is reached (what is shared counts as often as it is met; a slice's spare places count too). A statement '..UptoSaid' is the law's where the arguments, and the package variables that the reading takes, are together of bulk at most 1048576: NARROWER than '..Said'. Prove '..Said' where nothing that the law and all that it calls make is longer than what came in: it says more and counts as full. Else prove '..UptoSaid'. A law counts once. -/
mutual
def uptoBulk {H : Type} : DataW H → Nat
  | .lit (.string bytes) => bytes.length + 1
  | .lit _ => 1
  | .nil => 1
  | .ptr d => uptoBulk d + 1
  | .slice elems spare => uptoBulkAll elems + uptoBulkAll spare + 1
  | .agg parts => uptoBulkAll parts + 1
  | .iface _ d => uptoBulk d + 1
  | .map entries => uptoBulkEntries entries + 1
  | .held _ => 1
def uptoBulkAll {H : Type} : List (DataW H) → Nat
  | [] => 0
  | d :: r => uptoBulk d + uptoBulkAll r
def uptoBulkEntries {H : Type} : List (Lit × DataW H) → Nat
  | [] => 0
  | x :: r => uptoBulkEntry x + uptoBulkEntries r
def uptoBulkEntry {H : Type} : Lit × DataW H → Nat
  | (.string bytes, d) => bytes.length + uptoBulk d + 1
  | (_, d) => uptoBulk d + 1
 end
def uptoSmall : (H : Type) → List (DataW H) → Bool := fun _ ds => decide (uptoBulkAll ds ≤ 1048576)
def OpenSpec.upto (s : _root_.Go.ChangeSpec) : _root_.Go.OpenSpec := { _root_.Go.OpenSpec.ofChange s with cond := some uptoSmall }

/-- 'laws.FnUses', WHERE WHAT IT READS IS OF BULK AT MOST 1048576: true; the input reads as it did. -/
def fnUsesUptoRow : OpenClaim := { program := "ytedcdfcamomcaaadoor", sum := "e4289bab069f181c597170bef4dbc9a58682477c90e69df287e0794cd1374dca", func := "loop.example/g00985/laws.FnUses", spec := "fnUses", unfollowed := true, recurses := true, named := ["loop.example/g00985/impl.opNames"], apart := false, laid := [("loop.example/g00985/impl.opNames", laid_loop_example_g00985_impl_opNames)], narrowed := true }
def FnUsesUptoSaid : Prop := fnUsesUptoRow.holds Tryd.pinned (OpenSpec.upto fnUsesSpec)

/-- 'laws.FnExactOpName', WHERE WHAT IT READS IS OF BULK AT MOST 1048576: true; the input reads as it did. -/
def fnExactOpNameUptoRow : OpenClaim := { program := "ytedcdfcamomcaaadoor", sum := "e4289bab069f181c597170bef4dbc9a58682477c90e69df287e0794cd1374dca", func := "loop.example/g00985/laws.FnExactOpName", spec := "fnExactOpName", named := ["loop.example/g00985/impl.opNames"], apart := false, laid := [("loop.example/g00985/impl.opNames", laid_loop_example_g00985_impl_opNames)], narrowed := true }
def FnExactOpNameUptoSaid : Prop := fnExactOpNameUptoRow.holds Tryd.pinned (OpenSpec.upto fnExactOpNameSpec)

end Rows
end Go.Proofs.YtedcdfcamomcaaaDoor
