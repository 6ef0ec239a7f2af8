/-
  No cell of these rows narrows 'for every input' (looked for: loops, veiled, ifaces, maps, wideKeys, modest, calm, conditions, laid).
  DERIVED. THE GIVEN ROWS OF THIS SEAT. 4 by the template 'for every input the law returns true; each argument reads behind the call as it read before'; 0 by the template 'total and deterministic' (their statements: YtedcdfcamomcaaaTotals.lean).
  GIVEN WITH THE SEED: the statements are not yours to turn. If you find one false, say at which input.
  Laid BY PROGRAM, IN A SANDBOX (cutbox-rows.mjs): the forced cells as the released guide's own fill.sh prints them over the translation e630680108a16447… (all of the seat's roots in one cut). By AI agents, Wed Nov 11 2026. No macro, syntax, notation, axiom, sorry.
-/
import Derived.Test.YtedcdfcamomcaaaChecked
import GoSem.Claim
import GoSem.ClaimJoined
import GoSem.ClaimMapViews
import Derived.JoinedTies
import Derived.KernelRfl
namespace Go.Proofs.Ytedcdfcamomcaaa
/- THE CELL 'sum', in the pinned program and in every row, IS THE sha256 OF THE DUMP (.gsa) THAT YtedcdfcamomcaaaProg.lean LOADS. Nothing in Lean hashes anything: it is a label: what it is worth is what the hold of that sum in a sandbox is worth. -/
noncomputable def Try.pinned : Pinned := { name := "ytedcdfcamomcaaa", sum := "e630680108a1644709730228fc83dd5e8e4b704658451a80ece83e33e177cf0b", checked := Try.checked }
namespace Rows
def none {H : Type} : Left H := { results := [], args := [] }

/-- 'laws.FnExactInsOk': WHATEVER THE INPUT: true; the input reads as it did. -/
def fnExactInsOkSpec : ChangeSpec := { name := "fnExactInsOk", fn := fun _ => fun
  | [d1, d2] => { results := [.lit (.bool true)], args := [d1, d2] }
  | _ => none }
def fnExactInsOkRow : OpenClaim := { program := "ytedcdfcamomcaaa", sum := "e630680108a1644709730228fc83dd5e8e4b704658451a80ece83e33e177cf0b", func := "loop.example/g00985/laws.FnExactInsOk", spec := "fnExactInsOk", unfollowed := true, recurses := true, apart := false }
def FnExactInsOkSaid : Prop := fnExactInsOkRow.holds Try.pinned (OpenSpec.ofChange fnExactInsOkSpec)

/-- ITS FALSE NEIGHBOUR: 'it returns false'. Refute it at one input. -/
def fnExactInsOkWrong : ChangeSpec := { name := "fnExactInsOk", fn := fun _ => fun
  | [d1, d2] => { results := [.lit (.bool false)], args := [d1, d2] }
  | _ => none }
def FnExactInsOkWrongFalsely : Prop := fnExactInsOkRow.holds Try.pinned (OpenSpec.ofChange fnExactInsOkWrong)

/-- 'laws.FnExactWritesReg': WHATEVER THE INPUT: true; the input reads as it did. -/
def fnExactWritesRegSpec : ChangeSpec := { name := "fnExactWritesReg", fn := fun _ => fun
  | [d] => { results := [.lit (.bool true)], args := [d] }
  | _ => none }
def fnExactWritesRegRow : OpenClaim := { program := "ytedcdfcamomcaaa", sum := "e630680108a1644709730228fc83dd5e8e4b704658451a80ece83e33e177cf0b", func := "loop.example/g00985/laws.FnExactWritesReg", spec := "fnExactWritesReg", apart := false }
def FnExactWritesRegSaid : Prop := fnExactWritesRegRow.holds Try.pinned (OpenSpec.ofChange fnExactWritesRegSpec)

/-- ITS FALSE NEIGHBOUR: 'it returns false'. Refute it at one input. -/
def fnExactWritesRegWrong : ChangeSpec := { name := "fnExactWritesReg", fn := fun _ => fun
  | [d] => { results := [.lit (.bool false)], args := [d] }
  | _ => none }
def FnExactWritesRegWrongFalsely : Prop := fnExactWritesRegRow.holds Try.pinned (OpenSpec.ofChange fnExactWritesRegWrong)

/-- 'laws.FnExactReadsRegs': WHATEVER THE INPUT: true; the input reads as it did. -/
def fnExactReadsRegsSpec : ChangeSpec := { name := "fnExactReadsRegs", fn := fun _ => fun
  | [d] => { results := [.lit (.bool true)], args := [d] }
  | _ => none }
def fnExactReadsRegsRow : OpenClaim := { program := "ytedcdfcamomcaaa", sum := "e630680108a1644709730228fc83dd5e8e4b704658451a80ece83e33e177cf0b", func := "loop.example/g00985/laws.FnExactReadsRegs", spec := "fnExactReadsRegs", recurses := true, apart := false }
def FnExactReadsRegsSaid : Prop := fnExactReadsRegsRow.holds Try.pinned (OpenSpec.ofChange fnExactReadsRegsSpec)

/-- ITS FALSE NEIGHBOUR: 'it returns false'. Refute it at one input. -/
def fnExactReadsRegsWrong : ChangeSpec := { name := "fnExactReadsRegs", fn := fun _ => fun
  | [d] => { results := [.lit (.bool false)], args := [d] }
  | _ => none }
def FnExactReadsRegsWrongFalsely : Prop := fnExactReadsRegsRow.holds Try.pinned (OpenSpec.ofChange fnExactReadsRegsWrong)

/-- 'laws.FnExactIsLocal': WHATEVER THE INPUT: true; the input reads as it did. -/
def fnExactIsLocalSpec : ChangeSpec := { name := "fnExactIsLocal", fn := fun _ => fun
  | [d] => { results := [.lit (.bool true)], args := [d] }
  | _ => none }
def fnExactIsLocalRow : OpenClaim := { program := "ytedcdfcamomcaaa", sum := "e630680108a1644709730228fc83dd5e8e4b704658451a80ece83e33e177cf0b", func := "loop.example/g00985/laws.FnExactIsLocal", spec := "fnExactIsLocal", apart := false }
def FnExactIsLocalSaid : Prop := fnExactIsLocalRow.holds Try.pinned (OpenSpec.ofChange fnExactIsLocalSpec)

/-- ITS FALSE NEIGHBOUR: 'it returns false'. Refute it at one input. -/
def fnExactIsLocalWrong : ChangeSpec := { name := "fnExactIsLocal", fn := fun _ => fun
  | [d] => { results := [.lit (.bool false)], args := [d] }
  | _ => none }
def FnExactIsLocalWrongFalsely : Prop := fnExactIsLocalRow.holds Try.pinned (OpenSpec.ofChange fnExactIsLocalWrong)

/- THE SECOND FORM. 'bulk': how many values and letters a reading holds, each counted each time it is reached (what is shared counts as often as it is met; a slice's spare places count too). A statement '..UptoSaid' is the law's where the arguments, and the package variables that the reading takes, are together of bulk at most 1048576: NARROWER than '..Said'. Prove '..Said' where nothing that the law and all that it calls make is longer than what came in: it says more and counts as full. Else prove '..UptoSaid'. A law counts once. -/
mutual
def uptoBulk {H : Type} : DataW H → Nat
  | .lit (.string bytes) => bytes.length + 1
  | .lit _ => 1
  | .nil => 1
  | .ptr d => uptoBulk d + 1
  | .slice elems spare => uptoBulkAll elems + uptoBulkAll spare + 1
  | .agg parts => uptoBulkAll parts + 1
  | .iface _ d => uptoBulk d + 1
  | .map entries => uptoBulkEntries entries + 1
  | .held _ => 1
def uptoBulkAll {H : Type} : List (DataW H) → Nat
  | [] => 0
  | d :: r => uptoBulk d + uptoBulkAll r
def uptoBulkEntries {H : Type} : List (Lit × DataW H) → Nat
  | [] => 0
  | x :: r => uptoBulkEntry x + uptoBulkEntries r
def uptoBulkEntry {H : Type} : Lit × DataW H → Nat
  | (.string bytes, d) => bytes.length + uptoBulk d + 1
  | (_, d) => uptoBulk d + 1
 end
def uptoSmall : (H : Type) → List (DataW H) → Bool := fun _ ds => decide (uptoBulkAll ds ≤ 1048576)
def OpenSpec.upto (s : _root_.Go.ChangeSpec) : _root_.Go.OpenSpec := { _root_.Go.OpenSpec.ofChange s with cond := some uptoSmall }

/-- 'laws.FnExactInsOk', WHERE WHAT IT READS IS OF BULK AT MOST 1048576: true; the input reads as it did. -/
def fnExactInsOkUptoRow : OpenClaim := { program := "ytedcdfcamomcaaa", sum := "e630680108a1644709730228fc83dd5e8e4b704658451a80ece83e33e177cf0b", func := "loop.example/g00985/laws.FnExactInsOk", spec := "fnExactInsOk", unfollowed := true, recurses := true, apart := false, narrowed := true }
def FnExactInsOkUptoSaid : Prop := fnExactInsOkUptoRow.holds Try.pinned (OpenSpec.upto fnExactInsOkSpec)

/-- 'laws.FnExactWritesReg', WHERE WHAT IT READS IS OF BULK AT MOST 1048576: true; the input reads as it did. -/
def fnExactWritesRegUptoRow : OpenClaim := { program := "ytedcdfcamomcaaa", sum := "e630680108a1644709730228fc83dd5e8e4b704658451a80ece83e33e177cf0b", func := "loop.example/g00985/laws.FnExactWritesReg", spec := "fnExactWritesReg", apart := false, narrowed := true }
def FnExactWritesRegUptoSaid : Prop := fnExactWritesRegUptoRow.holds Try.pinned (OpenSpec.upto fnExactWritesRegSpec)

/-- 'laws.FnExactReadsRegs', WHERE WHAT IT READS IS OF BULK AT MOST 1048576: true; the input reads as it did. -/
def fnExactReadsRegsUptoRow : OpenClaim := { program := "ytedcdfcamomcaaa", sum := "e630680108a1644709730228fc83dd5e8e4b704658451a80ece83e33e177cf0b", func := "loop.example/g00985/laws.FnExactReadsRegs", spec := "fnExactReadsRegs", recurses := true, apart := false, narrowed := true }
def FnExactReadsRegsUptoSaid : Prop := fnExactReadsRegsUptoRow.holds Try.pinned (OpenSpec.upto fnExactReadsRegsSpec)

/-- 'laws.FnExactIsLocal', WHERE WHAT IT READS IS OF BULK AT MOST 1048576: true; the input reads as it did. -/
def fnExactIsLocalUptoRow : OpenClaim := { program := "ytedcdfcamomcaaa", sum := "e630680108a1644709730228fc83dd5e8e4b704658451a80ece83e33e177cf0b", func := "loop.example/g00985/laws.FnExactIsLocal", spec := "fnExactIsLocal", apart := false, narrowed := true }
def FnExactIsLocalUptoSaid : Prop := fnExactIsLocalUptoRow.holds Try.pinned (OpenSpec.upto fnExactIsLocalSpec)

end Rows
end Go.Proofs.Ytedcdfcamomcaaa
