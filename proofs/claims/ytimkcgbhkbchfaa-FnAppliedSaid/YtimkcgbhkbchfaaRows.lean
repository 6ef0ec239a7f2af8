/-
  No cell of these rows narrows 'for every input' (looked for: loops, veiled, ifaces, maps, wideKeys, modest, calm, conditions, laid).
  DERIVED. THE GIVEN ROWS OF THIS SEAT. 7 by the template 'for every input the law returns true; each argument reads behind the call as it read before'; 0 by the template 'total and deterministic' (their statements: YtimkcgbhkbchfaaTotals.lean).
  GIVEN WITH THE SEED: the statements are not yours to turn. If you find one false, say at which input.
  Laid BY PROGRAM, IN A SANDBOX (cutbox-rows.mjs): the forced cells as the released guide's own fill.sh prints them over the translation 23c0e86511ab67eb… (all of the seat's roots in one cut). By AI agents, Wed Nov 11 2026. No macro, syntax, notation, axiom, sorry.
-/
import Derived.Test.YtimkcgbhkbchfaaChecked
import GoSem.Claim
import GoSem.ClaimJoined
import GoSem.ClaimMapViews
import Derived.JoinedTies
import Derived.KernelRfl
namespace Go.Proofs.Ytimkcgbhkbchfaa
/- THE CELL 'sum', in the pinned program and in every row, IS THE sha256 OF THE DUMP (.gsa) THAT YtimkcgbhkbchfaaProg.lean LOADS. Nothing in Lean hashes anything: it is a label: what it is worth is what the hold of that sum in a sandbox is worth. -/
noncomputable def Try.pinned : Pinned := { name := "ytimkcgbhkbchfaa", sum := "23c0e86511ab67eb3644c4d104ef091c5dcbbb43314c40672b1d8a98d388cd94", checked := Try.checked }
namespace Rows
def none {H : Type} : Left H := { results := [], args := [] }

/-- 'laws.FnApplied': WHATEVER THE INPUT: true; the input reads as it did. -/
def fnAppliedSpec : ChangeSpec := { name := "fnApplied", fn := fun _ => fun
  | [d] => { results := [.lit (.bool true)], args := [d] }
  | _ => none }
def fnAppliedRow : OpenClaim := { program := "ytimkcgbhkbchfaa", sum := "23c0e86511ab67eb3644c4d104ef091c5dcbbb43314c40672b1d8a98d388cd94", func := "loop.example/g00985/laws.FnApplied", spec := "fnApplied", unfollowed := true, recurses := true, apart := false }
def FnAppliedSaid : Prop := fnAppliedRow.holds Try.pinned (OpenSpec.ofChange fnAppliedSpec)

/-- ITS FALSE NEIGHBOUR: 'it returns false'. Refute it at one input. -/
def fnAppliedWrong : ChangeSpec := { name := "fnApplied", fn := fun _ => fun
  | [d] => { results := [.lit (.bool false)], args := [d] }
  | _ => none }
def FnAppliedWrongFalsely : Prop := fnAppliedRow.holds Try.pinned (OpenSpec.ofChange fnAppliedWrong)

/-- 'laws.FnLaneSteps': WHATEVER THE INPUT: true; the input reads as it did. -/
def fnLaneStepsSpec : ChangeSpec := { name := "fnLaneSteps", fn := fun _ => fun
  | [d] => { results := [.lit (.bool true)], args := [d] }
  | _ => none }
def fnLaneStepsRow : OpenClaim := { program := "ytimkcgbhkbchfaa", sum := "23c0e86511ab67eb3644c4d104ef091c5dcbbb43314c40672b1d8a98d388cd94", func := "loop.example/g00985/laws.FnLaneSteps", spec := "fnLaneSteps", unfollowed := true, recurses := true, apart := false }
def FnLaneStepsSaid : Prop := fnLaneStepsRow.holds Try.pinned (OpenSpec.ofChange fnLaneStepsSpec)

/-- ITS FALSE NEIGHBOUR: 'it returns false'. Refute it at one input. -/
def fnLaneStepsWrong : ChangeSpec := { name := "fnLaneSteps", fn := fun _ => fun
  | [d] => { results := [.lit (.bool false)], args := [d] }
  | _ => none }
def FnLaneStepsWrongFalsely : Prop := fnLaneStepsRow.holds Try.pinned (OpenSpec.ofChange fnLaneStepsWrong)

/-- 'laws.FnExactLaneNew': WHATEVER THE INPUT: true; the input reads as it did. -/
def fnExactLaneNewSpec : ChangeSpec := { name := "fnExactLaneNew", fn := fun _ => fun
  | [d] => { results := [.lit (.bool true)], args := [d] }
  | _ => none }
def fnExactLaneNewRow : OpenClaim := { program := "ytimkcgbhkbchfaa", sum := "23c0e86511ab67eb3644c4d104ef091c5dcbbb43314c40672b1d8a98d388cd94", func := "loop.example/g00985/laws.FnExactLaneNew", spec := "fnExactLaneNew", apart := false }
def FnExactLaneNewSaid : Prop := fnExactLaneNewRow.holds Try.pinned (OpenSpec.ofChange fnExactLaneNewSpec)

/-- ITS FALSE NEIGHBOUR: 'it returns false'. Refute it at one input. -/
def fnExactLaneNewWrong : ChangeSpec := { name := "fnExactLaneNew", fn := fun _ => fun
  | [d] => { results := [.lit (.bool false)], args := [d] }
  | _ => none }
def FnExactLaneNewWrongFalsely : Prop := fnExactLaneNewRow.holds Try.pinned (OpenSpec.ofChange fnExactLaneNewWrong)

/-- 'laws.FnExactLaneOk': WHATEVER THE INPUT: true; the input reads as it did. -/
def fnExactLaneOkSpec : ChangeSpec := { name := "fnExactLaneOk", fn := fun _ => fun
  | [d1, d2] => { results := [.lit (.bool true)], args := [d1, d2] }
  | _ => none }
def fnExactLaneOkRow : OpenClaim := { program := "ytimkcgbhkbchfaa", sum := "23c0e86511ab67eb3644c4d104ef091c5dcbbb43314c40672b1d8a98d388cd94", func := "loop.example/g00985/laws.FnExactLaneOk", spec := "fnExactLaneOk", unfollowed := true, recurses := true, apart := false }
def FnExactLaneOkSaid : Prop := fnExactLaneOkRow.holds Try.pinned (OpenSpec.ofChange fnExactLaneOkSpec)

/-- ITS FALSE NEIGHBOUR: 'it returns false'. Refute it at one input. -/
def fnExactLaneOkWrong : ChangeSpec := { name := "fnExactLaneOk", fn := fun _ => fun
  | [d1, d2] => { results := [.lit (.bool false)], args := [d1, d2] }
  | _ => none }
def FnExactLaneOkWrongFalsely : Prop := fnExactLaneOkRow.holds Try.pinned (OpenSpec.ofChange fnExactLaneOkWrong)

/-- 'laws.FnExactLaneEnded': WHATEVER THE INPUT: true; the input reads as it did. -/
def fnExactLaneEndedSpec : ChangeSpec := { name := "fnExactLaneEnded", fn := fun _ => fun
  | [d1, d2] => { results := [.lit (.bool true)], args := [d1, d2] }
  | _ => none }
def fnExactLaneEndedRow : OpenClaim := { program := "ytimkcgbhkbchfaa", sum := "23c0e86511ab67eb3644c4d104ef091c5dcbbb43314c40672b1d8a98d388cd94", func := "loop.example/g00985/laws.FnExactLaneEnded", spec := "fnExactLaneEnded", unfollowed := true, recurses := true, apart := false }
def FnExactLaneEndedSaid : Prop := fnExactLaneEndedRow.holds Try.pinned (OpenSpec.ofChange fnExactLaneEndedSpec)

/-- ITS FALSE NEIGHBOUR: 'it returns false'. Refute it at one input. -/
def fnExactLaneEndedWrong : ChangeSpec := { name := "fnExactLaneEnded", fn := fun _ => fun
  | [d1, d2] => { results := [.lit (.bool false)], args := [d1, d2] }
  | _ => none }
def FnExactLaneEndedWrongFalsely : Prop := fnExactLaneEndedRow.holds Try.pinned (OpenSpec.ofChange fnExactLaneEndedWrong)

/-- 'laws.FnExactLocalStep': WHATEVER THE INPUT: true; the input reads as it did. -/
def fnExactLocalStepSpec : ChangeSpec := { name := "fnExactLocalStep", fn := fun _ => fun
  | [d1, d2] => { results := [.lit (.bool true)], args := [d1, d2] }
  | _ => none }
def fnExactLocalStepRow : OpenClaim := { program := "ytimkcgbhkbchfaa", sum := "23c0e86511ab67eb3644c4d104ef091c5dcbbb43314c40672b1d8a98d388cd94", func := "loop.example/g00985/laws.FnExactLocalStep", spec := "fnExactLocalStep", unfollowed := true, recurses := true, apart := false }
def FnExactLocalStepSaid : Prop := fnExactLocalStepRow.holds Try.pinned (OpenSpec.ofChange fnExactLocalStepSpec)

/-- ITS FALSE NEIGHBOUR: 'it returns false'. Refute it at one input. -/
def fnExactLocalStepWrong : ChangeSpec := { name := "fnExactLocalStep", fn := fun _ => fun
  | [d1, d2] => { results := [.lit (.bool false)], args := [d1, d2] }
  | _ => none }
def FnExactLocalStepWrongFalsely : Prop := fnExactLocalStepRow.holds Try.pinned (OpenSpec.ofChange fnExactLocalStepWrong)

/-- 'laws.FnExactApplyIns': WHATEVER THE INPUT: true; the input reads as it did. -/
def fnExactApplyInsSpec : ChangeSpec := { name := "fnExactApplyIns", fn := fun _ => fun
  | [d1, d2, d3] => { results := [.lit (.bool true)], args := [d1, d2, d3] }
  | _ => none }
def fnExactApplyInsRow : OpenClaim := { program := "ytimkcgbhkbchfaa", sum := "23c0e86511ab67eb3644c4d104ef091c5dcbbb43314c40672b1d8a98d388cd94", func := "loop.example/g00985/laws.FnExactApplyIns", spec := "fnExactApplyIns", unfollowed := true, recurses := true, apart := false }
def FnExactApplyInsSaid : Prop := fnExactApplyInsRow.holds Try.pinned (OpenSpec.ofChange fnExactApplyInsSpec)

/-- ITS FALSE NEIGHBOUR: 'it returns false'. Refute it at one input. -/
def fnExactApplyInsWrong : ChangeSpec := { name := "fnExactApplyIns", fn := fun _ => fun
  | [d1, d2, d3] => { results := [.lit (.bool false)], args := [d1, d2, d3] }
  | _ => none }
def FnExactApplyInsWrongFalsely : Prop := fnExactApplyInsRow.holds Try.pinned (OpenSpec.ofChange fnExactApplyInsWrong)

/- THE SECOND FORM. 'bulk': how many values and letters a reading holds, each counted each time it is reached (what is shared counts as often as it is met; a slice's spare places count too). A statement '..UptoSaid' is the law's where the arguments, and the package variables that the reading takes, are together of bulk at most 1048576: NARROWER than '..Said'. Prove '..Said' where nothing that the law and all that it calls make is longer than what came in: it says more and counts as full. Else prove '..UptoSaid'. A law counts once. -/
mutual
def uptoBulk {H : Type} : DataW H → Nat
  | .lit (.string bytes) => bytes.length + 1
  | .lit _ => 1
  | .nil => 1
  | .ptr d => uptoBulk d + 1
  | .slice elems spare => uptoBulkAll elems + uptoBulkAll spare + 1
  | .agg parts => uptoBulkAll parts + 1
  | .iface _ d => uptoBulk d + 1
  | .map entries => uptoBulkEntries entries + 1
  | .held _ => 1
def uptoBulkAll {H : Type} : List (DataW H) → Nat
  | [] => 0
  | d :: r => uptoBulk d + uptoBulkAll r
def uptoBulkEntries {H : Type} : List (Lit × DataW H) → Nat
  | [] => 0
  | x :: r => uptoBulkEntry x + uptoBulkEntries r
def uptoBulkEntry {H : Type} : Lit × DataW H → Nat
  | (.string bytes, d) => bytes.length + uptoBulk d + 1
  | (_, d) => uptoBulk d + 1
 end
def uptoSmall : (H : Type) → List (DataW H) → Bool := fun _ ds => decide (uptoBulkAll ds ≤ 1048576)
def OpenSpec.upto (s : _root_.Go.ChangeSpec) : _root_.Go.OpenSpec := { _root_.Go.OpenSpec.ofChange s with cond := some uptoSmall }

/-- 'laws.FnApplied', WHERE WHAT IT READS IS OF BULK AT MOST 1048576: true; the input reads as it did. -/
def fnAppliedUptoRow : OpenClaim := { program := "ytimkcgbhkbchfaa", sum := "23c0e86511ab67eb3644c4d104ef091c5dcbbb43314c40672b1d8a98d388cd94", func := "loop.example/g00985/laws.FnApplied", spec := "fnApplied", unfollowed := true, recurses := true, apart := false, narrowed := true }
def FnAppliedUptoSaid : Prop := fnAppliedUptoRow.holds Try.pinned (OpenSpec.upto fnAppliedSpec)

/-- 'laws.FnLaneSteps', WHERE WHAT IT READS IS OF BULK AT MOST 1048576: true; the input reads as it did. -/
def fnLaneStepsUptoRow : OpenClaim := { program := "ytimkcgbhkbchfaa", sum := "23c0e86511ab67eb3644c4d104ef091c5dcbbb43314c40672b1d8a98d388cd94", func := "loop.example/g00985/laws.FnLaneSteps", spec := "fnLaneSteps", unfollowed := true, recurses := true, apart := false, narrowed := true }
def FnLaneStepsUptoSaid : Prop := fnLaneStepsUptoRow.holds Try.pinned (OpenSpec.upto fnLaneStepsSpec)

/-- 'laws.FnExactLaneNew', WHERE WHAT IT READS IS OF BULK AT MOST 1048576: true; the input reads as it did. -/
def fnExactLaneNewUptoRow : OpenClaim := { program := "ytimkcgbhkbchfaa", sum := "23c0e86511ab67eb3644c4d104ef091c5dcbbb43314c40672b1d8a98d388cd94", func := "loop.example/g00985/laws.FnExactLaneNew", spec := "fnExactLaneNew", apart := false, narrowed := true }
def FnExactLaneNewUptoSaid : Prop := fnExactLaneNewUptoRow.holds Try.pinned (OpenSpec.upto fnExactLaneNewSpec)

/-- 'laws.FnExactLaneOk', WHERE WHAT IT READS IS OF BULK AT MOST 1048576: true; the input reads as it did. -/
def fnExactLaneOkUptoRow : OpenClaim := { program := "ytimkcgbhkbchfaa", sum := "23c0e86511ab67eb3644c4d104ef091c5dcbbb43314c40672b1d8a98d388cd94", func := "loop.example/g00985/laws.FnExactLaneOk", spec := "fnExactLaneOk", unfollowed := true, recurses := true, apart := false, narrowed := true }
def FnExactLaneOkUptoSaid : Prop := fnExactLaneOkUptoRow.holds Try.pinned (OpenSpec.upto fnExactLaneOkSpec)

/-- 'laws.FnExactLaneEnded', WHERE WHAT IT READS IS OF BULK AT MOST 1048576: true; the input reads as it did. -/
def fnExactLaneEndedUptoRow : OpenClaim := { program := "ytimkcgbhkbchfaa", sum := "23c0e86511ab67eb3644c4d104ef091c5dcbbb43314c40672b1d8a98d388cd94", func := "loop.example/g00985/laws.FnExactLaneEnded", spec := "fnExactLaneEnded", unfollowed := true, recurses := true, apart := false, narrowed := true }
def FnExactLaneEndedUptoSaid : Prop := fnExactLaneEndedUptoRow.holds Try.pinned (OpenSpec.upto fnExactLaneEndedSpec)

/-- 'laws.FnExactLocalStep', WHERE WHAT IT READS IS OF BULK AT MOST 1048576: true; the input reads as it did. -/
def fnExactLocalStepUptoRow : OpenClaim := { program := "ytimkcgbhkbchfaa", sum := "23c0e86511ab67eb3644c4d104ef091c5dcbbb43314c40672b1d8a98d388cd94", func := "loop.example/g00985/laws.FnExactLocalStep", spec := "fnExactLocalStep", unfollowed := true, recurses := true, apart := false, narrowed := true }
def FnExactLocalStepUptoSaid : Prop := fnExactLocalStepUptoRow.holds Try.pinned (OpenSpec.upto fnExactLocalStepSpec)

/-- 'laws.FnExactApplyIns', WHERE WHAT IT READS IS OF BULK AT MOST 1048576: true; the input reads as it did. -/
def fnExactApplyInsUptoRow : OpenClaim := { program := "ytimkcgbhkbchfaa", sum := "23c0e86511ab67eb3644c4d104ef091c5dcbbb43314c40672b1d8a98d388cd94", func := "loop.example/g00985/laws.FnExactApplyIns", spec := "fnExactApplyIns", unfollowed := true, recurses := true, apart := false, narrowed := true }
def FnExactApplyInsUptoSaid : Prop := fnExactApplyInsUptoRow.holds Try.pinned (OpenSpec.upto fnExactApplyInsSpec)

end Rows
end Go.Proofs.Ytimkcgbhkbchfaa
