/-
  No cell of these rows narrows 'for every input' (looked for: loops, veiled, ifaces, maps, wideKeys, modest, calm, conditions, laid).
  DERIVED. THE GIVEN ROWS OF THIS SEAT. 5 by the template 'for every input the law returns true; each argument reads behind the call as it read before'; 0 by the template 'total and deterministic' (their statements: YtnehfghffdgceaaTotals.lean).
  GIVEN WITH THE SEED: the statements are not yours to turn. If you find one false, say at which input.
  Laid BY PROGRAM, IN A SANDBOX (cutbox-rows.mjs): the forced cells as the released guide's own fill.sh prints them over the translation dc485b0cb40e7247… (all of the seat's roots in one cut). By AI agents, Wed Nov 11 2026. No macro, syntax, notation, axiom, sorry.
-/
import Derived.Test.YtnehfghffdgceaaChecked
import GoSem.Claim
import GoSem.ClaimJoined
import GoSem.ClaimMapViews
import Derived.JoinedTies
import Derived.KernelRfl
namespace Go.Proofs.Ytnehfghffdgceaa
/- THE CELL 'sum', in the pinned program and in every row, IS THE sha256 OF THE DUMP (.gsa) THAT YtnehfghffdgceaaProg.lean LOADS. Nothing in Lean hashes anything: it is a label: what it is worth is what the hold of that sum in a sandbox is worth. -/
noncomputable def Try.pinned : Pinned := { name := "ytnehfghffdgceaa", sum := "dc485b0cb40e7247d4160c4246e71f2d2c172624bba1103f36a2d9db39cdb7a7", checked := Try.checked }
namespace Rows
def none {H : Type} : Left H := { results := [], args := [] }

/-- 'laws.FnExactProgramOk': WHATEVER THE INPUT: true; the input reads as it did. -/
def fnExactProgramOkSpec : ChangeSpec := { name := "fnExactProgramOk", fn := fun _ => fun
  | [d] => { results := [.lit (.bool true)], args := [d] }
  | _ => none }
def fnExactProgramOkRow : OpenClaim := { program := "ytnehfghffdgceaa", sum := "dc485b0cb40e7247d4160c4246e71f2d2c172624bba1103f36a2d9db39cdb7a7", func := "loop.example/g00985/laws.FnExactProgramOk", spec := "fnExactProgramOk", unfollowed := true, recurses := true, apart := false }
def FnExactProgramOkSaid : Prop := fnExactProgramOkRow.holds Try.pinned (OpenSpec.ofChange fnExactProgramOkSpec)

/-- ITS FALSE NEIGHBOUR: 'it returns false'. Refute it at one input. -/
def fnExactProgramOkWrong : ChangeSpec := { name := "fnExactProgramOk", fn := fun _ => fun
  | [d] => { results := [.lit (.bool false)], args := [d] }
  | _ => none }
def FnExactProgramOkWrongFalsely : Prop := fnExactProgramOkRow.holds Try.pinned (OpenSpec.ofChange fnExactProgramOkWrong)

/-- 'laws.FnExactIsQuiet': WHATEVER THE INPUT: true; the input reads as it did. -/
def fnExactIsQuietSpec : ChangeSpec := { name := "fnExactIsQuiet", fn := fun _ => fun
  | [d] => { results := [.lit (.bool true)], args := [d] }
  | _ => none }
def fnExactIsQuietRow : OpenClaim := { program := "ytnehfghffdgceaa", sum := "dc485b0cb40e7247d4160c4246e71f2d2c172624bba1103f36a2d9db39cdb7a7", func := "loop.example/g00985/laws.FnExactIsQuiet", spec := "fnExactIsQuiet", unfollowed := true, recurses := true, apart := false }
def FnExactIsQuietSaid : Prop := fnExactIsQuietRow.holds Try.pinned (OpenSpec.ofChange fnExactIsQuietSpec)

/-- ITS FALSE NEIGHBOUR: 'it returns false'. Refute it at one input. -/
def fnExactIsQuietWrong : ChangeSpec := { name := "fnExactIsQuiet", fn := fun _ => fun
  | [d] => { results := [.lit (.bool false)], args := [d] }
  | _ => none }
def FnExactIsQuietWrongFalsely : Prop := fnExactIsQuietRow.holds Try.pinned (OpenSpec.ofChange fnExactIsQuietWrong)

/-- 'laws.FnExactSamePrograms': WHATEVER THE INPUT: true; the input reads as it did. -/
def fnExactSameProgramsSpec : ChangeSpec := { name := "fnExactSamePrograms", fn := fun _ => fun
  | [d1, d2] => { results := [.lit (.bool true)], args := [d1, d2] }
  | _ => none }
def fnExactSameProgramsRow : OpenClaim := { program := "ytnehfghffdgceaa", sum := "dc485b0cb40e7247d4160c4246e71f2d2c172624bba1103f36a2d9db39cdb7a7", func := "loop.example/g00985/laws.FnExactSamePrograms", spec := "fnExactSamePrograms", apart := false }
def FnExactSameProgramsSaid : Prop := fnExactSameProgramsRow.holds Try.pinned (OpenSpec.ofChange fnExactSameProgramsSpec)

/-- ITS FALSE NEIGHBOUR: 'it returns false'. Refute it at one input. -/
def fnExactSameProgramsWrong : ChangeSpec := { name := "fnExactSamePrograms", fn := fun _ => fun
  | [d1, d2] => { results := [.lit (.bool false)], args := [d1, d2] }
  | _ => none }
def FnExactSameProgramsWrongFalsely : Prop := fnExactSameProgramsRow.holds Try.pinned (OpenSpec.ofChange fnExactSameProgramsWrong)

/-- 'laws.FnExactInsertNop': WHATEVER THE INPUT: true; the input reads as it did. -/
def fnExactInsertNopSpec : ChangeSpec := { name := "fnExactInsertNop", fn := fun _ => fun
  | [d1, d2] => { results := [.lit (.bool true)], args := [d1, d2] }
  | _ => none }
def fnExactInsertNopRow : OpenClaim := { program := "ytnehfghffdgceaa", sum := "dc485b0cb40e7247d4160c4246e71f2d2c172624bba1103f36a2d9db39cdb7a7", func := "loop.example/g00985/laws.FnExactInsertNop", spec := "fnExactInsertNop", unfollowed := true, recurses := true, apart := false }
def FnExactInsertNopSaid : Prop := fnExactInsertNopRow.holds Try.pinned (OpenSpec.ofChange fnExactInsertNopSpec)

/-- ITS FALSE NEIGHBOUR: 'it returns false'. Refute it at one input. -/
def fnExactInsertNopWrong : ChangeSpec := { name := "fnExactInsertNop", fn := fun _ => fun
  | [d1, d2] => { results := [.lit (.bool false)], args := [d1, d2] }
  | _ => none }
def FnExactInsertNopWrongFalsely : Prop := fnExactInsertNopRow.holds Try.pinned (OpenSpec.ofChange fnExactInsertNopWrong)

/-- 'laws.FnExactCountOps': WHATEVER THE INPUT: true; the input reads as it did. -/
def fnExactCountOpsSpec : ChangeSpec := { name := "fnExactCountOps", fn := fun _ => fun
  | [d1, d2] => { results := [.lit (.bool true)], args := [d1, d2] }
  | _ => none }
def fnExactCountOpsRow : OpenClaim := { program := "ytnehfghffdgceaa", sum := "dc485b0cb40e7247d4160c4246e71f2d2c172624bba1103f36a2d9db39cdb7a7", func := "loop.example/g00985/laws.FnExactCountOps", spec := "fnExactCountOps", apart := false }
def FnExactCountOpsSaid : Prop := fnExactCountOpsRow.holds Try.pinned (OpenSpec.ofChange fnExactCountOpsSpec)

/-- ITS FALSE NEIGHBOUR: 'it returns false'. Refute it at one input. -/
def fnExactCountOpsWrong : ChangeSpec := { name := "fnExactCountOps", fn := fun _ => fun
  | [d1, d2] => { results := [.lit (.bool false)], args := [d1, d2] }
  | _ => none }
def FnExactCountOpsWrongFalsely : Prop := fnExactCountOpsRow.holds Try.pinned (OpenSpec.ofChange fnExactCountOpsWrong)

/- THE SECOND FORM. 'bulk': how many values and letters a reading holds, each counted each time it is reached (what is shared counts as often as it is met; a slice's spare places count too). A statement '..UptoSaid' is the law's where the arguments, and the package variables that the reading takes, are together of bulk at most 1048576: NARROWER than '..Said'. Prove '..Said' where nothing that the law and all that it calls make is longer than what came in: it says more and counts as full. Else prove '..UptoSaid'. A law counts once. -/
mutual
def uptoBulk {H : Type} : DataW H → Nat
  | .lit (.string bytes) => bytes.length + 1
  | .lit _ => 1
  | .nil => 1
  | .ptr d => uptoBulk d + 1
  | .slice elems spare => uptoBulkAll elems + uptoBulkAll spare + 1
  | .agg parts => uptoBulkAll parts + 1
  | .iface _ d => uptoBulk d + 1
  | .map entries => uptoBulkEntries entries + 1
  | .held _ => 1
def uptoBulkAll {H : Type} : List (DataW H) → Nat
  | [] => 0
  | d :: r => uptoBulk d + uptoBulkAll r
def uptoBulkEntries {H : Type} : List (Lit × DataW H) → Nat
  | [] => 0
  | x :: r => uptoBulkEntry x + uptoBulkEntries r
def uptoBulkEntry {H : Type} : Lit × DataW H → Nat
  | (.string bytes, d) => bytes.length + uptoBulk d + 1
  | (_, d) => uptoBulk d + 1
 end
def uptoSmall : (H : Type) → List (DataW H) → Bool := fun _ ds => decide (uptoBulkAll ds ≤ 1048576)
def OpenSpec.upto (s : _root_.Go.ChangeSpec) : _root_.Go.OpenSpec := { _root_.Go.OpenSpec.ofChange s with cond := some uptoSmall }

/-- 'laws.FnExactProgramOk', WHERE WHAT IT READS IS OF BULK AT MOST 1048576: true; the input reads as it did. -/
def fnExactProgramOkUptoRow : OpenClaim := { program := "ytnehfghffdgceaa", sum := "dc485b0cb40e7247d4160c4246e71f2d2c172624bba1103f36a2d9db39cdb7a7", func := "loop.example/g00985/laws.FnExactProgramOk", spec := "fnExactProgramOk", unfollowed := true, recurses := true, apart := false, narrowed := true }
def FnExactProgramOkUptoSaid : Prop := fnExactProgramOkUptoRow.holds Try.pinned (OpenSpec.upto fnExactProgramOkSpec)

/-- 'laws.FnExactIsQuiet', WHERE WHAT IT READS IS OF BULK AT MOST 1048576: true; the input reads as it did. -/
def fnExactIsQuietUptoRow : OpenClaim := { program := "ytnehfghffdgceaa", sum := "dc485b0cb40e7247d4160c4246e71f2d2c172624bba1103f36a2d9db39cdb7a7", func := "loop.example/g00985/laws.FnExactIsQuiet", spec := "fnExactIsQuiet", unfollowed := true, recurses := true, apart := false, narrowed := true }
def FnExactIsQuietUptoSaid : Prop := fnExactIsQuietUptoRow.holds Try.pinned (OpenSpec.upto fnExactIsQuietSpec)

/-- 'laws.FnExactSamePrograms', WHERE WHAT IT READS IS OF BULK AT MOST 1048576: true; the input reads as it did. -/
def fnExactSameProgramsUptoRow : OpenClaim := { program := "ytnehfghffdgceaa", sum := "dc485b0cb40e7247d4160c4246e71f2d2c172624bba1103f36a2d9db39cdb7a7", func := "loop.example/g00985/laws.FnExactSamePrograms", spec := "fnExactSamePrograms", apart := false, narrowed := true }
def FnExactSameProgramsUptoSaid : Prop := fnExactSameProgramsUptoRow.holds Try.pinned (OpenSpec.upto fnExactSameProgramsSpec)

/-- 'laws.FnExactInsertNop', WHERE WHAT IT READS IS OF BULK AT MOST 1048576: true; the input reads as it did. -/
def fnExactInsertNopUptoRow : OpenClaim := { program := "ytnehfghffdgceaa", sum := "dc485b0cb40e7247d4160c4246e71f2d2c172624bba1103f36a2d9db39cdb7a7", func := "loop.example/g00985/laws.FnExactInsertNop", spec := "fnExactInsertNop", unfollowed := true, recurses := true, apart := false, narrowed := true }
def FnExactInsertNopUptoSaid : Prop := fnExactInsertNopUptoRow.holds Try.pinned (OpenSpec.upto fnExactInsertNopSpec)

/-- 'laws.FnExactCountOps', WHERE WHAT IT READS IS OF BULK AT MOST 1048576: true; the input reads as it did. -/
def fnExactCountOpsUptoRow : OpenClaim := { program := "ytnehfghffdgceaa", sum := "dc485b0cb40e7247d4160c4246e71f2d2c172624bba1103f36a2d9db39cdb7a7", func := "loop.example/g00985/laws.FnExactCountOps", spec := "fnExactCountOps", apart := false, narrowed := true }
def FnExactCountOpsUptoSaid : Prop := fnExactCountOpsUptoRow.holds Try.pinned (OpenSpec.upto fnExactCountOpsSpec)

end Rows
end Go.Proofs.Ytnehfghffdgceaa
