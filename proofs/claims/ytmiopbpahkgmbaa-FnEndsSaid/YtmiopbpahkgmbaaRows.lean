/-
  No cell of these rows narrows 'for every input' (looked for: loops, veiled, ifaces, maps, wideKeys, modest, calm, conditions, laid).
  DERIVED. THE GIVEN ROWS OF THIS SEAT. 9 by the template 'for every input the law returns true; each argument reads behind the call as it read before'; 0 by the template 'total and deterministic' (their statements: YtmiopbpahkgmbaaTotals.lean).
  GIVEN WITH THE SEED: the statements are not yours to turn. If you find one false, say at which input.
  Laid BY PROGRAM, IN A SANDBOX (cutbox-rows.mjs): the forced cells as the released guide's own fill.sh prints them over the translation 00a91472ddbc75e4… (all of the seat's roots in one cut). By AI agents, Wed Nov 11 2026. No macro, syntax, notation, axiom, sorry.
-/
import Derived.Test.YtmiopbpahkgmbaaChecked
import GoSem.Claim
import GoSem.ClaimJoined
import GoSem.ClaimMapViews
import Derived.JoinedTies
import Derived.KernelRfl
namespace Go.Proofs.Ytmiopbpahkgmbaa
/- THE CELL 'sum', in the pinned program and in every row, IS THE sha256 OF THE DUMP (.gsa) THAT YtmiopbpahkgmbaaProg.lean LOADS. Nothing in Lean hashes anything: it is a label: what it is worth is what the hold of that sum in a sandbox is worth. -/
noncomputable def Try.pinned : Pinned := { name := "ytmiopbpahkgmbaa", sum := "00a91472ddbc75e4127f7a687617615acf7bdf7aa06809cf34f690d9104eed69", checked := Try.checked }
namespace Rows
def none {H : Type} : Left H := { results := [], args := [] }

/-- 'laws.FnApplied': WHATEVER THE INPUT: true; the input reads as it did. -/
def fnAppliedSpec : ChangeSpec := { name := "fnApplied", fn := fun _ => fun
  | [d] => { results := [.lit (.bool true)], args := [d] }
  | _ => none }
def fnAppliedRow : OpenClaim := { program := "ytmiopbpahkgmbaa", sum := "00a91472ddbc75e4127f7a687617615acf7bdf7aa06809cf34f690d9104eed69", func := "loop.example/g00985/laws.FnApplied", spec := "fnApplied", unfollowed := true, recurses := true, apart := false }
def FnAppliedSaid : Prop := fnAppliedRow.holds Try.pinned (OpenSpec.ofChange fnAppliedSpec)

/-- ITS FALSE NEIGHBOUR: 'it returns false'. Refute it at one input. -/
def fnAppliedWrong : ChangeSpec := { name := "fnApplied", fn := fun _ => fun
  | [d] => { results := [.lit (.bool false)], args := [d] }
  | _ => none }
def FnAppliedWrongFalsely : Prop := fnAppliedRow.holds Try.pinned (OpenSpec.ofChange fnAppliedWrong)

/-- 'laws.FnLaneSteps': WHATEVER THE INPUT: true; the input reads as it did. -/
def fnLaneStepsSpec : ChangeSpec := { name := "fnLaneSteps", fn := fun _ => fun
  | [d] => { results := [.lit (.bool true)], args := [d] }
  | _ => none }
def fnLaneStepsRow : OpenClaim := { program := "ytmiopbpahkgmbaa", sum := "00a91472ddbc75e4127f7a687617615acf7bdf7aa06809cf34f690d9104eed69", func := "loop.example/g00985/laws.FnLaneSteps", spec := "fnLaneSteps", unfollowed := true, recurses := true, apart := false }
def FnLaneStepsSaid : Prop := fnLaneStepsRow.holds Try.pinned (OpenSpec.ofChange fnLaneStepsSpec)

/-- ITS FALSE NEIGHBOUR: 'it returns false'. Refute it at one input. -/
def fnLaneStepsWrong : ChangeSpec := { name := "fnLaneSteps", fn := fun _ => fun
  | [d] => { results := [.lit (.bool false)], args := [d] }
  | _ => none }
def FnLaneStepsWrongFalsely : Prop := fnLaneStepsRow.holds Try.pinned (OpenSpec.ofChange fnLaneStepsWrong)

/-- 'laws.FnLaneParts': WHATEVER THE INPUT: true; the input reads as it did. -/
def fnLanePartsSpec : ChangeSpec := { name := "fnLaneParts", fn := fun _ => fun
  | [d] => { results := [.lit (.bool true)], args := [d] }
  | _ => none }
def fnLanePartsRow : OpenClaim := { program := "ytmiopbpahkgmbaa", sum := "00a91472ddbc75e4127f7a687617615acf7bdf7aa06809cf34f690d9104eed69", func := "loop.example/g00985/laws.FnLaneParts", spec := "fnLaneParts", unfollowed := true, recurses := true, apart := false }
def FnLanePartsSaid : Prop := fnLanePartsRow.holds Try.pinned (OpenSpec.ofChange fnLanePartsSpec)

/-- ITS FALSE NEIGHBOUR: 'it returns false'. Refute it at one input. -/
def fnLanePartsWrong : ChangeSpec := { name := "fnLaneParts", fn := fun _ => fun
  | [d] => { results := [.lit (.bool false)], args := [d] }
  | _ => none }
def FnLanePartsWrongFalsely : Prop := fnLanePartsRow.holds Try.pinned (OpenSpec.ofChange fnLanePartsWrong)

/-- 'laws.FnEnds': WHATEVER THE INPUT: true; the input reads as it did. -/
def fnEndsSpec : ChangeSpec := { name := "fnEnds", fn := fun _ => fun
  | [d] => { results := [.lit (.bool true)], args := [d] }
  | _ => none }
def fnEndsRow : OpenClaim := { program := "ytmiopbpahkgmbaa", sum := "00a91472ddbc75e4127f7a687617615acf7bdf7aa06809cf34f690d9104eed69", func := "loop.example/g00985/laws.FnEnds", spec := "fnEnds", unfollowed := true, recurses := true, apart := false }
def FnEndsSaid : Prop := fnEndsRow.holds Try.pinned (OpenSpec.ofChange fnEndsSpec)

/-- ITS FALSE NEIGHBOUR: 'it returns false'. Refute it at one input. -/
def fnEndsWrong : ChangeSpec := { name := "fnEnds", fn := fun _ => fun
  | [d] => { results := [.lit (.bool false)], args := [d] }
  | _ => none }
def FnEndsWrongFalsely : Prop := fnEndsRow.holds Try.pinned (OpenSpec.ofChange fnEndsWrong)

/-- 'laws.FnExactLocalStep': WHATEVER THE INPUT: true; the input reads as it did. -/
def fnExactLocalStepSpec : ChangeSpec := { name := "fnExactLocalStep", fn := fun _ => fun
  | [d1, d2] => { results := [.lit (.bool true)], args := [d1, d2] }
  | _ => none }
def fnExactLocalStepRow : OpenClaim := { program := "ytmiopbpahkgmbaa", sum := "00a91472ddbc75e4127f7a687617615acf7bdf7aa06809cf34f690d9104eed69", func := "loop.example/g00985/laws.FnExactLocalStep", spec := "fnExactLocalStep", unfollowed := true, recurses := true, apart := false }
def FnExactLocalStepSaid : Prop := fnExactLocalStepRow.holds Try.pinned (OpenSpec.ofChange fnExactLocalStepSpec)

/-- ITS FALSE NEIGHBOUR: 'it returns false'. Refute it at one input. -/
def fnExactLocalStepWrong : ChangeSpec := { name := "fnExactLocalStep", fn := fun _ => fun
  | [d1, d2] => { results := [.lit (.bool false)], args := [d1, d2] }
  | _ => none }
def FnExactLocalStepWrongFalsely : Prop := fnExactLocalStepRow.holds Try.pinned (OpenSpec.ofChange fnExactLocalStepWrong)

/-- 'laws.FnExactRunLane': WHATEVER THE INPUT: true; the input reads as it did. -/
def fnExactRunLaneSpec : ChangeSpec := { name := "fnExactRunLane", fn := fun _ => fun
  | [d1, d2, d3] => { results := [.lit (.bool true)], args := [d1, d2, d3] }
  | _ => none }
def fnExactRunLaneRow : OpenClaim := { program := "ytmiopbpahkgmbaa", sum := "00a91472ddbc75e4127f7a687617615acf7bdf7aa06809cf34f690d9104eed69", func := "loop.example/g00985/laws.FnExactRunLane", spec := "fnExactRunLane", unfollowed := true, recurses := true, apart := false }
def FnExactRunLaneSaid : Prop := fnExactRunLaneRow.holds Try.pinned (OpenSpec.ofChange fnExactRunLaneSpec)

/-- ITS FALSE NEIGHBOUR: 'it returns false'. Refute it at one input. -/
def fnExactRunLaneWrong : ChangeSpec := { name := "fnExactRunLane", fn := fun _ => fun
  | [d1, d2, d3] => { results := [.lit (.bool false)], args := [d1, d2, d3] }
  | _ => none }
def FnExactRunLaneWrongFalsely : Prop := fnExactRunLaneRow.holds Try.pinned (OpenSpec.ofChange fnExactRunLaneWrong)

/-- 'laws.FnExactRunAlone': WHATEVER THE INPUT: true; the input reads as it did. -/
def fnExactRunAloneSpec : ChangeSpec := { name := "fnExactRunAlone", fn := fun _ => fun
  | [d1, d2] => { results := [.lit (.bool true)], args := [d1, d2] }
  | _ => none }
def fnExactRunAloneRow : OpenClaim := { program := "ytmiopbpahkgmbaa", sum := "00a91472ddbc75e4127f7a687617615acf7bdf7aa06809cf34f690d9104eed69", func := "loop.example/g00985/laws.FnExactRunAlone", spec := "fnExactRunAlone", unfollowed := true, recurses := true, apart := false }
def FnExactRunAloneSaid : Prop := fnExactRunAloneRow.holds Try.pinned (OpenSpec.ofChange fnExactRunAloneSpec)

/-- ITS FALSE NEIGHBOUR: 'it returns false'. Refute it at one input. -/
def fnExactRunAloneWrong : ChangeSpec := { name := "fnExactRunAlone", fn := fun _ => fun
  | [d1, d2] => { results := [.lit (.bool false)], args := [d1, d2] }
  | _ => none }
def FnExactRunAloneWrongFalsely : Prop := fnExactRunAloneRow.holds Try.pinned (OpenSpec.ofChange fnExactRunAloneWrong)

/-- 'laws.FnExactStepsAlone': WHATEVER THE INPUT: true; the input reads as it did. -/
def fnExactStepsAloneSpec : ChangeSpec := { name := "fnExactStepsAlone", fn := fun _ => fun
  | [d1, d2] => { results := [.lit (.bool true)], args := [d1, d2] }
  | _ => none }
def fnExactStepsAloneRow : OpenClaim := { program := "ytmiopbpahkgmbaa", sum := "00a91472ddbc75e4127f7a687617615acf7bdf7aa06809cf34f690d9104eed69", func := "loop.example/g00985/laws.FnExactStepsAlone", spec := "fnExactStepsAlone", unfollowed := true, recurses := true, apart := false }
def FnExactStepsAloneSaid : Prop := fnExactStepsAloneRow.holds Try.pinned (OpenSpec.ofChange fnExactStepsAloneSpec)

/-- ITS FALSE NEIGHBOUR: 'it returns false'. Refute it at one input. -/
def fnExactStepsAloneWrong : ChangeSpec := { name := "fnExactStepsAlone", fn := fun _ => fun
  | [d1, d2] => { results := [.lit (.bool false)], args := [d1, d2] }
  | _ => none }
def FnExactStepsAloneWrongFalsely : Prop := fnExactStepsAloneRow.holds Try.pinned (OpenSpec.ofChange fnExactStepsAloneWrong)

/-- 'laws.FnExactEndRegs': WHATEVER THE INPUT: true; the input reads as it did. -/
def fnExactEndRegsSpec : ChangeSpec := { name := "fnExactEndRegs", fn := fun _ => fun
  | [d1, d2, d3] => { results := [.lit (.bool true)], args := [d1, d2, d3] }
  | _ => none }
def fnExactEndRegsRow : OpenClaim := { program := "ytmiopbpahkgmbaa", sum := "00a91472ddbc75e4127f7a687617615acf7bdf7aa06809cf34f690d9104eed69", func := "loop.example/g00985/laws.FnExactEndRegs", spec := "fnExactEndRegs", unfollowed := true, recurses := true, apart := false }
def FnExactEndRegsSaid : Prop := fnExactEndRegsRow.holds Try.pinned (OpenSpec.ofChange fnExactEndRegsSpec)

/-- ITS FALSE NEIGHBOUR: 'it returns false'. Refute it at one input. -/
def fnExactEndRegsWrong : ChangeSpec := { name := "fnExactEndRegs", fn := fun _ => fun
  | [d1, d2, d3] => { results := [.lit (.bool false)], args := [d1, d2, d3] }
  | _ => none }
def FnExactEndRegsWrongFalsely : Prop := fnExactEndRegsRow.holds Try.pinned (OpenSpec.ofChange fnExactEndRegsWrong)

/- THE SECOND FORM. 'bulk': how many values and letters a reading holds, each counted each time it is reached (what is shared counts as often as it is met; a slice's spare places count too). A statement '..UptoSaid' is the law's where the arguments, and the package variables that the reading takes, are together of bulk at most 1048576: NARROWER than '..Said'. Prove '..Said' where nothing that the law and all that it calls make is longer than what came in: it says more and counts as full. Else prove '..UptoSaid'. A law counts once. -/
mutual
def uptoBulk {H : Type} : DataW H → Nat
  | .lit (.string bytes) => bytes.length + 1
  | .lit _ => 1
  | .nil => 1
  | .ptr d => uptoBulk d + 1
  | .slice elems spare => uptoBulkAll elems + uptoBulkAll spare + 1
  | .agg parts => uptoBulkAll parts + 1
  | .iface _ d => uptoBulk d + 1
  | .map entries => uptoBulkEntries entries + 1
  | .held _ => 1
def uptoBulkAll {H : Type} : List (DataW H) → Nat
  | [] => 0
  | d :: r => uptoBulk d + uptoBulkAll r
def uptoBulkEntries {H : Type} : List (Lit × DataW H) → Nat
  | [] => 0
  | x :: r => uptoBulkEntry x + uptoBulkEntries r
def uptoBulkEntry {H : Type} : Lit × DataW H → Nat
  | (.string bytes, d) => bytes.length + uptoBulk d + 1
  | (_, d) => uptoBulk d + 1
 end
def uptoSmall : (H : Type) → List (DataW H) → Bool := fun _ ds => decide (uptoBulkAll ds ≤ 1048576)
def OpenSpec.upto (s : _root_.Go.ChangeSpec) : _root_.Go.OpenSpec := { _root_.Go.OpenSpec.ofChange s with cond := some uptoSmall }

/-- 'laws.FnApplied', WHERE WHAT IT READS IS OF BULK AT MOST 1048576: true; the input reads as it did. -/
def fnAppliedUptoRow : OpenClaim := { program := "ytmiopbpahkgmbaa", sum := "00a91472ddbc75e4127f7a687617615acf7bdf7aa06809cf34f690d9104eed69", func := "loop.example/g00985/laws.FnApplied", spec := "fnApplied", unfollowed := true, recurses := true, apart := false, narrowed := true }
def FnAppliedUptoSaid : Prop := fnAppliedUptoRow.holds Try.pinned (OpenSpec.upto fnAppliedSpec)

/-- 'laws.FnLaneSteps', WHERE WHAT IT READS IS OF BULK AT MOST 1048576: true; the input reads as it did. -/
def fnLaneStepsUptoRow : OpenClaim := { program := "ytmiopbpahkgmbaa", sum := "00a91472ddbc75e4127f7a687617615acf7bdf7aa06809cf34f690d9104eed69", func := "loop.example/g00985/laws.FnLaneSteps", spec := "fnLaneSteps", unfollowed := true, recurses := true, apart := false, narrowed := true }
def FnLaneStepsUptoSaid : Prop := fnLaneStepsUptoRow.holds Try.pinned (OpenSpec.upto fnLaneStepsSpec)

/-- 'laws.FnLaneParts', WHERE WHAT IT READS IS OF BULK AT MOST 1048576: true; the input reads as it did. -/
def fnLanePartsUptoRow : OpenClaim := { program := "ytmiopbpahkgmbaa", sum := "00a91472ddbc75e4127f7a687617615acf7bdf7aa06809cf34f690d9104eed69", func := "loop.example/g00985/laws.FnLaneParts", spec := "fnLaneParts", unfollowed := true, recurses := true, apart := false, narrowed := true }
def FnLanePartsUptoSaid : Prop := fnLanePartsUptoRow.holds Try.pinned (OpenSpec.upto fnLanePartsSpec)

/-- 'laws.FnEnds', WHERE WHAT IT READS IS OF BULK AT MOST 1048576: true; the input reads as it did. -/
def fnEndsUptoRow : OpenClaim := { program := "ytmiopbpahkgmbaa", sum := "00a91472ddbc75e4127f7a687617615acf7bdf7aa06809cf34f690d9104eed69", func := "loop.example/g00985/laws.FnEnds", spec := "fnEnds", unfollowed := true, recurses := true, apart := false, narrowed := true }
def FnEndsUptoSaid : Prop := fnEndsUptoRow.holds Try.pinned (OpenSpec.upto fnEndsSpec)

/-- 'laws.FnExactLocalStep', WHERE WHAT IT READS IS OF BULK AT MOST 1048576: true; the input reads as it did. -/
def fnExactLocalStepUptoRow : OpenClaim := { program := "ytmiopbpahkgmbaa", sum := "00a91472ddbc75e4127f7a687617615acf7bdf7aa06809cf34f690d9104eed69", func := "loop.example/g00985/laws.FnExactLocalStep", spec := "fnExactLocalStep", unfollowed := true, recurses := true, apart := false, narrowed := true }
def FnExactLocalStepUptoSaid : Prop := fnExactLocalStepUptoRow.holds Try.pinned (OpenSpec.upto fnExactLocalStepSpec)

/-- 'laws.FnExactRunLane', WHERE WHAT IT READS IS OF BULK AT MOST 1048576: true; the input reads as it did. -/
def fnExactRunLaneUptoRow : OpenClaim := { program := "ytmiopbpahkgmbaa", sum := "00a91472ddbc75e4127f7a687617615acf7bdf7aa06809cf34f690d9104eed69", func := "loop.example/g00985/laws.FnExactRunLane", spec := "fnExactRunLane", unfollowed := true, recurses := true, apart := false, narrowed := true }
def FnExactRunLaneUptoSaid : Prop := fnExactRunLaneUptoRow.holds Try.pinned (OpenSpec.upto fnExactRunLaneSpec)

/-- 'laws.FnExactRunAlone', WHERE WHAT IT READS IS OF BULK AT MOST 1048576: true; the input reads as it did. -/
def fnExactRunAloneUptoRow : OpenClaim := { program := "ytmiopbpahkgmbaa", sum := "00a91472ddbc75e4127f7a687617615acf7bdf7aa06809cf34f690d9104eed69", func := "loop.example/g00985/laws.FnExactRunAlone", spec := "fnExactRunAlone", unfollowed := true, recurses := true, apart := false, narrowed := true }
def FnExactRunAloneUptoSaid : Prop := fnExactRunAloneUptoRow.holds Try.pinned (OpenSpec.upto fnExactRunAloneSpec)

/-- 'laws.FnExactStepsAlone', WHERE WHAT IT READS IS OF BULK AT MOST 1048576: true; the input reads as it did. -/
def fnExactStepsAloneUptoRow : OpenClaim := { program := "ytmiopbpahkgmbaa", sum := "00a91472ddbc75e4127f7a687617615acf7bdf7aa06809cf34f690d9104eed69", func := "loop.example/g00985/laws.FnExactStepsAlone", spec := "fnExactStepsAlone", unfollowed := true, recurses := true, apart := false, narrowed := true }
def FnExactStepsAloneUptoSaid : Prop := fnExactStepsAloneUptoRow.holds Try.pinned (OpenSpec.upto fnExactStepsAloneSpec)

/-- 'laws.FnExactEndRegs', WHERE WHAT IT READS IS OF BULK AT MOST 1048576: true; the input reads as it did. -/
def fnExactEndRegsUptoRow : OpenClaim := { program := "ytmiopbpahkgmbaa", sum := "00a91472ddbc75e4127f7a687617615acf7bdf7aa06809cf34f690d9104eed69", func := "loop.example/g00985/laws.FnExactEndRegs", spec := "fnExactEndRegs", unfollowed := true, recurses := true, apart := false, narrowed := true }
def FnExactEndRegsUptoSaid : Prop := fnExactEndRegsUptoRow.holds Try.pinned (OpenSpec.upto fnExactEndRegsSpec)

end Rows
end Go.Proofs.Ytmiopbpahkgmbaa
