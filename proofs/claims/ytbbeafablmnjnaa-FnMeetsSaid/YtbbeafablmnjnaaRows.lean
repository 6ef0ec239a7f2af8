/-
  No cell of these rows narrows 'for every input' (looked for: loops, veiled, ifaces, maps, wideKeys, modest, calm, conditions, laid).
  DERIVED. THE GIVEN ROWS OF THIS SEAT. 6 by the template 'for every input the law returns true; each argument reads behind the call as it read before'; 0 by the template 'total and deterministic' (their statements: YtbbeafablmnjnaaTotals.lean).
  GIVEN WITH THE SEED: the statements are not yours to turn. If you find one false, say at which input.
  Laid BY PROGRAM, IN A SANDBOX (cutbox-rows.mjs): the forced cells as the released guide's own fill.sh prints them over the translation 0905ca258098e95e… (all of the seat's roots in one cut). By AI agents, Wed Nov 11 2026. No macro, syntax, notation, axiom, sorry.
-/
import Derived.Test.YtbbeafablmnjnaaChecked
import GoSem.Claim
import GoSem.ClaimJoined
import GoSem.ClaimMapViews
import Derived.JoinedTies
import Derived.KernelRfl
namespace Go.Proofs.Ytbbeafablmnjnaa
/- THE CELL 'sum', in the pinned program and in every row, IS THE sha256 OF THE DUMP (.gsa) THAT YtbbeafablmnjnaaProg.lean LOADS. Nothing in Lean hashes anything: it is a label: what it is worth is what the hold of that sum in a sandbox is worth. -/
noncomputable def Try.pinned : Pinned := { name := "ytbbeafablmnjnaa", sum := "0905ca258098e95e8818c24f2fbab21e6221e81c3f1f2aa73e30dbb941ff2725", checked := Try.checked }
namespace Rows
def none {H : Type} : Left H := { results := [], args := [] }

/-- 'laws.FnAfters': WHATEVER THE INPUT: true; the input reads as it did. -/
def fnAftersSpec : ChangeSpec := { name := "fnAfters", fn := fun _ => fun
  | [d] => { results := [.lit (.bool true)], args := [d] }
  | _ => none }
def fnAftersRow : OpenClaim := { program := "ytbbeafablmnjnaa", sum := "0905ca258098e95e8818c24f2fbab21e6221e81c3f1f2aa73e30dbb941ff2725", func := "loop.example/g00985/laws.FnAfters", spec := "fnAfters", unfollowed := true, recurses := true, apart := false }
def FnAftersSaid : Prop := fnAftersRow.holds Try.pinned (OpenSpec.ofChange fnAftersSpec)

/-- ITS FALSE NEIGHBOUR: 'it returns false'. Refute it at one input. -/
def fnAftersWrong : ChangeSpec := { name := "fnAfters", fn := fun _ => fun
  | [d] => { results := [.lit (.bool false)], args := [d] }
  | _ => none }
def FnAftersWrongFalsely : Prop := fnAftersRow.holds Try.pinned (OpenSpec.ofChange fnAftersWrong)

/-- 'laws.FnMeets': WHATEVER THE INPUT: true; the input reads as it did. -/
def fnMeetsSpec : ChangeSpec := { name := "fnMeets", fn := fun _ => fun
  | [d] => { results := [.lit (.bool true)], args := [d] }
  | _ => none }
def fnMeetsRow : OpenClaim := { program := "ytbbeafablmnjnaa", sum := "0905ca258098e95e8818c24f2fbab21e6221e81c3f1f2aa73e30dbb941ff2725", func := "loop.example/g00985/laws.FnMeets", spec := "fnMeets", unfollowed := true, recurses := true, apart := false }
def FnMeetsSaid : Prop := fnMeetsRow.holds Try.pinned (OpenSpec.ofChange fnMeetsSpec)

/-- ITS FALSE NEIGHBOUR: 'it returns false'. Refute it at one input. -/
def fnMeetsWrong : ChangeSpec := { name := "fnMeets", fn := fun _ => fun
  | [d] => { results := [.lit (.bool false)], args := [d] }
  | _ => none }
def FnMeetsWrongFalsely : Prop := fnMeetsRow.holds Try.pinned (OpenSpec.ofChange fnMeetsWrong)

/-- 'laws.FnExactIsAfter': WHATEVER THE INPUT: true; the input reads as it did. -/
def fnExactIsAfterSpec : ChangeSpec := { name := "fnExactIsAfter", fn := fun _ => fun
  | [d1, d2, d3] => { results := [.lit (.bool true)], args := [d1, d2, d3] }
  | _ => none }
def fnExactIsAfterRow : OpenClaim := { program := "ytbbeafablmnjnaa", sum := "0905ca258098e95e8818c24f2fbab21e6221e81c3f1f2aa73e30dbb941ff2725", func := "loop.example/g00985/laws.FnExactIsAfter", spec := "fnExactIsAfter", unfollowed := true, recurses := true, apart := false }
def FnExactIsAfterSaid : Prop := fnExactIsAfterRow.holds Try.pinned (OpenSpec.ofChange fnExactIsAfterSpec)

/-- ITS FALSE NEIGHBOUR: 'it returns false'. Refute it at one input. -/
def fnExactIsAfterWrong : ChangeSpec := { name := "fnExactIsAfter", fn := fun _ => fun
  | [d1, d2, d3] => { results := [.lit (.bool false)], args := [d1, d2, d3] }
  | _ => none }
def FnExactIsAfterWrongFalsely : Prop := fnExactIsAfterRow.holds Try.pinned (OpenSpec.ofChange fnExactIsAfterWrong)

/-- 'laws.FnExactAftersOf': WHATEVER THE INPUT: true; the input reads as it did. -/
def fnExactAftersOfSpec : ChangeSpec := { name := "fnExactAftersOf", fn := fun _ => fun
  | [d1, d2] => { results := [.lit (.bool true)], args := [d1, d2] }
  | _ => none }
def fnExactAftersOfRow : OpenClaim := { program := "ytbbeafablmnjnaa", sum := "0905ca258098e95e8818c24f2fbab21e6221e81c3f1f2aa73e30dbb941ff2725", func := "loop.example/g00985/laws.FnExactAftersOf", spec := "fnExactAftersOf", unfollowed := true, recurses := true, apart := false }
def FnExactAftersOfSaid : Prop := fnExactAftersOfRow.holds Try.pinned (OpenSpec.ofChange fnExactAftersOfSpec)

/-- ITS FALSE NEIGHBOUR: 'it returns false'. Refute it at one input. -/
def fnExactAftersOfWrong : ChangeSpec := { name := "fnExactAftersOf", fn := fun _ => fun
  | [d1, d2] => { results := [.lit (.bool false)], args := [d1, d2] }
  | _ => none }
def FnExactAftersOfWrongFalsely : Prop := fnExactAftersOfRow.holds Try.pinned (OpenSpec.ofChange fnExactAftersOfWrong)

/-- 'laws.FnExactFirstAfter': WHATEVER THE INPUT: true; the input reads as it did. -/
def fnExactFirstAfterSpec : ChangeSpec := { name := "fnExactFirstAfter", fn := fun _ => fun
  | [d1, d2] => { results := [.lit (.bool true)], args := [d1, d2] }
  | _ => none }
def fnExactFirstAfterRow : OpenClaim := { program := "ytbbeafablmnjnaa", sum := "0905ca258098e95e8818c24f2fbab21e6221e81c3f1f2aa73e30dbb941ff2725", func := "loop.example/g00985/laws.FnExactFirstAfter", spec := "fnExactFirstAfter", unfollowed := true, recurses := true, apart := false }
def FnExactFirstAfterSaid : Prop := fnExactFirstAfterRow.holds Try.pinned (OpenSpec.ofChange fnExactFirstAfterSpec)

/-- ITS FALSE NEIGHBOUR: 'it returns false'. Refute it at one input. -/
def fnExactFirstAfterWrong : ChangeSpec := { name := "fnExactFirstAfter", fn := fun _ => fun
  | [d1, d2] => { results := [.lit (.bool false)], args := [d1, d2] }
  | _ => none }
def FnExactFirstAfterWrongFalsely : Prop := fnExactFirstAfterRow.holds Try.pinned (OpenSpec.ofChange fnExactFirstAfterWrong)

/-- 'laws.FnExactMeetsAt': WHATEVER THE INPUT: true; the input reads as it did. -/
def fnExactMeetsAtSpec : ChangeSpec := { name := "fnExactMeetsAt", fn := fun _ => fun
  | [d1, d2, d3] => { results := [.lit (.bool true)], args := [d1, d2, d3] }
  | _ => none }
def fnExactMeetsAtRow : OpenClaim := { program := "ytbbeafablmnjnaa", sum := "0905ca258098e95e8818c24f2fbab21e6221e81c3f1f2aa73e30dbb941ff2725", func := "loop.example/g00985/laws.FnExactMeetsAt", spec := "fnExactMeetsAt", unfollowed := true, recurses := true, apart := false }
def FnExactMeetsAtSaid : Prop := fnExactMeetsAtRow.holds Try.pinned (OpenSpec.ofChange fnExactMeetsAtSpec)

/-- ITS FALSE NEIGHBOUR: 'it returns false'. Refute it at one input. -/
def fnExactMeetsAtWrong : ChangeSpec := { name := "fnExactMeetsAt", fn := fun _ => fun
  | [d1, d2, d3] => { results := [.lit (.bool false)], args := [d1, d2, d3] }
  | _ => none }
def FnExactMeetsAtWrongFalsely : Prop := fnExactMeetsAtRow.holds Try.pinned (OpenSpec.ofChange fnExactMeetsAtWrong)

/- THE SECOND FORM. 'bulk': how many values and letters a reading holds, each counted each time it is reached (what is shared counts as often as it is met; a slice's spare places count too). A statement '..UptoSaid' is the law's where the arguments, and the package variables that the reading takes, are together of bulk at most 1048576: NARROWER than '..Said'. Prove '..Said' where nothing that the law and all that it calls make is longer than what came in: it says more and counts as full. Else prove '..UptoSaid'. A law counts once. -/
mutual
def uptoBulk {H : Type} : DataW H → Nat
  | .lit (.string bytes) => bytes.length + 1
  | .lit _ => 1
  | .nil => 1
  | .ptr d => uptoBulk d + 1
  | .slice elems spare => uptoBulkAll elems + uptoBulkAll spare + 1
  | .agg parts => uptoBulkAll parts + 1
  | .iface _ d => uptoBulk d + 1
  | .map entries => uptoBulkEntries entries + 1
  | .held _ => 1
def uptoBulkAll {H : Type} : List (DataW H) → Nat
  | [] => 0
  | d :: r => uptoBulk d + uptoBulkAll r
def uptoBulkEntries {H : Type} : List (Lit × DataW H) → Nat
  | [] => 0
  | x :: r => uptoBulkEntry x + uptoBulkEntries r
def uptoBulkEntry {H : Type} : Lit × DataW H → Nat
  | (.string bytes, d) => bytes.length + uptoBulk d + 1
  | (_, d) => uptoBulk d + 1
 end
def uptoSmall : (H : Type) → List (DataW H) → Bool := fun _ ds => decide (uptoBulkAll ds ≤ 1048576)
def OpenSpec.upto (s : _root_.Go.ChangeSpec) : _root_.Go.OpenSpec := { _root_.Go.OpenSpec.ofChange s with cond := some uptoSmall }

/-- 'laws.FnAfters', WHERE WHAT IT READS IS OF BULK AT MOST 1048576: true; the input reads as it did. -/
def fnAftersUptoRow : OpenClaim := { program := "ytbbeafablmnjnaa", sum := "0905ca258098e95e8818c24f2fbab21e6221e81c3f1f2aa73e30dbb941ff2725", func := "loop.example/g00985/laws.FnAfters", spec := "fnAfters", unfollowed := true, recurses := true, apart := false, narrowed := true }
def FnAftersUptoSaid : Prop := fnAftersUptoRow.holds Try.pinned (OpenSpec.upto fnAftersSpec)

/-- 'laws.FnMeets', WHERE WHAT IT READS IS OF BULK AT MOST 1048576: true; the input reads as it did. -/
def fnMeetsUptoRow : OpenClaim := { program := "ytbbeafablmnjnaa", sum := "0905ca258098e95e8818c24f2fbab21e6221e81c3f1f2aa73e30dbb941ff2725", func := "loop.example/g00985/laws.FnMeets", spec := "fnMeets", unfollowed := true, recurses := true, apart := false, narrowed := true }
def FnMeetsUptoSaid : Prop := fnMeetsUptoRow.holds Try.pinned (OpenSpec.upto fnMeetsSpec)

/-- 'laws.FnExactIsAfter', WHERE WHAT IT READS IS OF BULK AT MOST 1048576: true; the input reads as it did. -/
def fnExactIsAfterUptoRow : OpenClaim := { program := "ytbbeafablmnjnaa", sum := "0905ca258098e95e8818c24f2fbab21e6221e81c3f1f2aa73e30dbb941ff2725", func := "loop.example/g00985/laws.FnExactIsAfter", spec := "fnExactIsAfter", unfollowed := true, recurses := true, apart := false, narrowed := true }
def FnExactIsAfterUptoSaid : Prop := fnExactIsAfterUptoRow.holds Try.pinned (OpenSpec.upto fnExactIsAfterSpec)

/-- 'laws.FnExactAftersOf', WHERE WHAT IT READS IS OF BULK AT MOST 1048576: true; the input reads as it did. -/
def fnExactAftersOfUptoRow : OpenClaim := { program := "ytbbeafablmnjnaa", sum := "0905ca258098e95e8818c24f2fbab21e6221e81c3f1f2aa73e30dbb941ff2725", func := "loop.example/g00985/laws.FnExactAftersOf", spec := "fnExactAftersOf", unfollowed := true, recurses := true, apart := false, narrowed := true }
def FnExactAftersOfUptoSaid : Prop := fnExactAftersOfUptoRow.holds Try.pinned (OpenSpec.upto fnExactAftersOfSpec)

/-- 'laws.FnExactFirstAfter', WHERE WHAT IT READS IS OF BULK AT MOST 1048576: true; the input reads as it did. -/
def fnExactFirstAfterUptoRow : OpenClaim := { program := "ytbbeafablmnjnaa", sum := "0905ca258098e95e8818c24f2fbab21e6221e81c3f1f2aa73e30dbb941ff2725", func := "loop.example/g00985/laws.FnExactFirstAfter", spec := "fnExactFirstAfter", unfollowed := true, recurses := true, apart := false, narrowed := true }
def FnExactFirstAfterUptoSaid : Prop := fnExactFirstAfterUptoRow.holds Try.pinned (OpenSpec.upto fnExactFirstAfterSpec)

/-- 'laws.FnExactMeetsAt', WHERE WHAT IT READS IS OF BULK AT MOST 1048576: true; the input reads as it did. -/
def fnExactMeetsAtUptoRow : OpenClaim := { program := "ytbbeafablmnjnaa", sum := "0905ca258098e95e8818c24f2fbab21e6221e81c3f1f2aa73e30dbb941ff2725", func := "loop.example/g00985/laws.FnExactMeetsAt", spec := "fnExactMeetsAt", unfollowed := true, recurses := true, apart := false, narrowed := true }
def FnExactMeetsAtUptoSaid : Prop := fnExactMeetsAtUptoRow.holds Try.pinned (OpenSpec.upto fnExactMeetsAtSpec)

end Rows
end Go.Proofs.Ytbbeafablmnjnaa
