/-
  No cell of these rows narrows 'for every input' (looked for: loops, veiled, ifaces, maps, wideKeys, modest, calm, conditions, laid).
  DERIVED. THE GIVEN ROWS OF THIS SEAT. 7 by the template 'for every input the law returns true; each argument reads behind the call as it read before'; 0 by the template 'total and deterministic' (their statements: YtkfolcmahbnenaaTotals.lean).
  GIVEN WITH THE SEED: the statements are not yours to turn. If you find one false, say at which input.
  Laid BY PROGRAM, IN A SANDBOX (cutbox-rows.mjs): the forced cells as the released guide's own fill.sh prints them over the translation cc5cd41fc5173098… (all of the seat's roots in one cut). By AI agents, Wed Nov 11 2026. No macro, syntax, notation, axiom, sorry.
-/
import Derived.Test.YtkfolcmahbnenaaChecked
import GoSem.Claim
import GoSem.ClaimJoined
import GoSem.ClaimMapViews
import Derived.JoinedTies
import Derived.KernelRfl
namespace Go.Proofs.Ytkfolcmahbnenaa
/- THE CELL 'sum', in the pinned program and in every row, IS THE sha256 OF THE DUMP (.gsa) THAT YtkfolcmahbnenaaProg.lean LOADS. Nothing in Lean hashes anything: it is a label: what it is worth is what the hold of that sum in a sandbox is worth. -/
noncomputable def Try.pinned : Pinned := { name := "ytkfolcmahbnenaa", sum := "cc5cd41fc517309853c4e7cf41e803c045183e552c9026cc48ff5b7f626d36f1", checked := Try.checked }
namespace Rows
def none {H : Type} : Left H := { results := [], args := [] }

/-- 'laws.FnMasks': WHATEVER THE INPUT: true; the input reads as it did. -/
def fnMasksSpec : ChangeSpec := { name := "fnMasks", fn := fun _ => fun
  | [d] => { results := [.lit (.bool true)], args := [d] }
  | _ => none }
def fnMasksRow : OpenClaim := { program := "ytkfolcmahbnenaa", sum := "cc5cd41fc517309853c4e7cf41e803c045183e552c9026cc48ff5b7f626d36f1", func := "loop.example/g00985/laws.FnMasks", spec := "fnMasks", apart := false }
def FnMasksSaid : Prop := fnMasksRow.holds Try.pinned (OpenSpec.ofChange fnMasksSpec)

/-- ITS FALSE NEIGHBOUR: 'it returns false'. Refute it at one input. -/
def fnMasksWrong : ChangeSpec := { name := "fnMasks", fn := fun _ => fun
  | [d] => { results := [.lit (.bool false)], args := [d] }
  | _ => none }
def FnMasksWrongFalsely : Prop := fnMasksRow.holds Try.pinned (OpenSpec.ofChange fnMasksWrong)

/-- 'laws.FnExactIsMask': WHATEVER THE INPUT: true; the input reads as it did. -/
def fnExactIsMaskSpec : ChangeSpec := { name := "fnExactIsMask", fn := fun _ => fun
  | [d] => { results := [.lit (.bool true)], args := [d] }
  | _ => none }
def fnExactIsMaskRow : OpenClaim := { program := "ytkfolcmahbnenaa", sum := "cc5cd41fc517309853c4e7cf41e803c045183e552c9026cc48ff5b7f626d36f1", func := "loop.example/g00985/laws.FnExactIsMask", spec := "fnExactIsMask", apart := false }
def FnExactIsMaskSaid : Prop := fnExactIsMaskRow.holds Try.pinned (OpenSpec.ofChange fnExactIsMaskSpec)

/-- ITS FALSE NEIGHBOUR: 'it returns false'. Refute it at one input. -/
def fnExactIsMaskWrong : ChangeSpec := { name := "fnExactIsMask", fn := fun _ => fun
  | [d] => { results := [.lit (.bool false)], args := [d] }
  | _ => none }
def FnExactIsMaskWrongFalsely : Prop := fnExactIsMaskRow.holds Try.pinned (OpenSpec.ofChange fnExactIsMaskWrong)

/-- 'laws.FnExactHasLane': WHATEVER THE INPUT: true; the input reads as it did. -/
def fnExactHasLaneSpec : ChangeSpec := { name := "fnExactHasLane", fn := fun _ => fun
  | [d1, d2] => { results := [.lit (.bool true)], args := [d1, d2] }
  | _ => none }
def fnExactHasLaneRow : OpenClaim := { program := "ytkfolcmahbnenaa", sum := "cc5cd41fc517309853c4e7cf41e803c045183e552c9026cc48ff5b7f626d36f1", func := "loop.example/g00985/laws.FnExactHasLane", spec := "fnExactHasLane", apart := false }
def FnExactHasLaneSaid : Prop := fnExactHasLaneRow.holds Try.pinned (OpenSpec.ofChange fnExactHasLaneSpec)

/-- ITS FALSE NEIGHBOUR: 'it returns false'. Refute it at one input. -/
def fnExactHasLaneWrong : ChangeSpec := { name := "fnExactHasLane", fn := fun _ => fun
  | [d1, d2] => { results := [.lit (.bool false)], args := [d1, d2] }
  | _ => none }
def FnExactHasLaneWrongFalsely : Prop := fnExactHasLaneRow.holds Try.pinned (OpenSpec.ofChange fnExactHasLaneWrong)

/-- 'laws.FnExactCountLanes': WHATEVER THE INPUT: true; the input reads as it did. -/
def fnExactCountLanesSpec : ChangeSpec := { name := "fnExactCountLanes", fn := fun _ => fun
  | [d] => { results := [.lit (.bool true)], args := [d] }
  | _ => none }
def fnExactCountLanesRow : OpenClaim := { program := "ytkfolcmahbnenaa", sum := "cc5cd41fc517309853c4e7cf41e803c045183e552c9026cc48ff5b7f626d36f1", func := "loop.example/g00985/laws.FnExactCountLanes", spec := "fnExactCountLanes", apart := false }
def FnExactCountLanesSaid : Prop := fnExactCountLanesRow.holds Try.pinned (OpenSpec.ofChange fnExactCountLanesSpec)

/-- ITS FALSE NEIGHBOUR: 'it returns false'. Refute it at one input. -/
def fnExactCountLanesWrong : ChangeSpec := { name := "fnExactCountLanes", fn := fun _ => fun
  | [d] => { results := [.lit (.bool false)], args := [d] }
  | _ => none }
def FnExactCountLanesWrongFalsely : Prop := fnExactCountLanesRow.holds Try.pinned (OpenSpec.ofChange fnExactCountLanesWrong)

/-- 'laws.FnExactLanesOf': WHATEVER THE INPUT: true; the input reads as it did. -/
def fnExactLanesOfSpec : ChangeSpec := { name := "fnExactLanesOf", fn := fun _ => fun
  | [d] => { results := [.lit (.bool true)], args := [d] }
  | _ => none }
def fnExactLanesOfRow : OpenClaim := { program := "ytkfolcmahbnenaa", sum := "cc5cd41fc517309853c4e7cf41e803c045183e552c9026cc48ff5b7f626d36f1", func := "loop.example/g00985/laws.FnExactLanesOf", spec := "fnExactLanesOf", apart := false }
def FnExactLanesOfSaid : Prop := fnExactLanesOfRow.holds Try.pinned (OpenSpec.ofChange fnExactLanesOfSpec)

/-- ITS FALSE NEIGHBOUR: 'it returns false'. Refute it at one input. -/
def fnExactLanesOfWrong : ChangeSpec := { name := "fnExactLanesOf", fn := fun _ => fun
  | [d] => { results := [.lit (.bool false)], args := [d] }
  | _ => none }
def FnExactLanesOfWrongFalsely : Prop := fnExactLanesOfRow.holds Try.pinned (OpenSpec.ofChange fnExactLanesOfWrong)

/-- 'laws.FnExactMaskOf': WHATEVER THE INPUT: true; the input reads as it did. -/
def fnExactMaskOfSpec : ChangeSpec := { name := "fnExactMaskOf", fn := fun _ => fun
  | [d] => { results := [.lit (.bool true)], args := [d] }
  | _ => none }
def fnExactMaskOfRow : OpenClaim := { program := "ytkfolcmahbnenaa", sum := "cc5cd41fc517309853c4e7cf41e803c045183e552c9026cc48ff5b7f626d36f1", func := "loop.example/g00985/laws.FnExactMaskOf", spec := "fnExactMaskOf", apart := false }
def FnExactMaskOfSaid : Prop := fnExactMaskOfRow.holds Try.pinned (OpenSpec.ofChange fnExactMaskOfSpec)

/-- ITS FALSE NEIGHBOUR: 'it returns false'. Refute it at one input. -/
def fnExactMaskOfWrong : ChangeSpec := { name := "fnExactMaskOf", fn := fun _ => fun
  | [d] => { results := [.lit (.bool false)], args := [d] }
  | _ => none }
def FnExactMaskOfWrongFalsely : Prop := fnExactMaskOfRow.holds Try.pinned (OpenSpec.ofChange fnExactMaskOfWrong)

/-- 'laws.FnExactSplitMask': WHATEVER THE INPUT: true; the input reads as it did. -/
def fnExactSplitMaskSpec : ChangeSpec := { name := "fnExactSplitMask", fn := fun _ => fun
  | [d1, d2] => { results := [.lit (.bool true)], args := [d1, d2] }
  | _ => none }
def fnExactSplitMaskRow : OpenClaim := { program := "ytkfolcmahbnenaa", sum := "cc5cd41fc517309853c4e7cf41e803c045183e552c9026cc48ff5b7f626d36f1", func := "loop.example/g00985/laws.FnExactSplitMask", spec := "fnExactSplitMask", apart := false }
def FnExactSplitMaskSaid : Prop := fnExactSplitMaskRow.holds Try.pinned (OpenSpec.ofChange fnExactSplitMaskSpec)

/-- ITS FALSE NEIGHBOUR: 'it returns false'. Refute it at one input. -/
def fnExactSplitMaskWrong : ChangeSpec := { name := "fnExactSplitMask", fn := fun _ => fun
  | [d1, d2] => { results := [.lit (.bool false)], args := [d1, d2] }
  | _ => none }
def FnExactSplitMaskWrongFalsely : Prop := fnExactSplitMaskRow.holds Try.pinned (OpenSpec.ofChange fnExactSplitMaskWrong)

/- THE SECOND FORM. 'bulk': how many values and letters a reading holds, each counted each time it is reached (what is shared counts as often as it is met; a slice's spare places count too). A statement '..UptoSaid' is the law's where the arguments, and the package variables that the reading takes, are together of bulk at most 1048576: NARROWER than '..Said'. Prove '..Said' where nothing that the law and all that it calls make is longer than what came in: it says more and counts as full. Else prove '..UptoSaid'. A law counts once. -/
mutual
def uptoBulk {H : Type} : DataW H → Nat
  | .lit (.string bytes) => bytes.length + 1
  | .lit _ => 1
  | .nil => 1
  | .ptr d => uptoBulk d + 1
  | .slice elems spare => uptoBulkAll elems + uptoBulkAll spare + 1
  | .agg parts => uptoBulkAll parts + 1
  | .iface _ d => uptoBulk d + 1
  | .map entries => uptoBulkEntries entries + 1
  | .held _ => 1
def uptoBulkAll {H : Type} : List (DataW H) → Nat
  | [] => 0
  | d :: r => uptoBulk d + uptoBulkAll r
def uptoBulkEntries {H : Type} : List (Lit × DataW H) → Nat
  | [] => 0
  | x :: r => uptoBulkEntry x + uptoBulkEntries r
def uptoBulkEntry {H : Type} : Lit × DataW H → Nat
  | (.string bytes, d) => bytes.length + uptoBulk d + 1
  | (_, d) => uptoBulk d + 1
 end
def uptoSmall : (H : Type) → List (DataW H) → Bool := fun _ ds => decide (uptoBulkAll ds ≤ 1048576)
def OpenSpec.upto (s : _root_.Go.ChangeSpec) : _root_.Go.OpenSpec := { _root_.Go.OpenSpec.ofChange s with cond := some uptoSmall }

/-- 'laws.FnMasks', WHERE WHAT IT READS IS OF BULK AT MOST 1048576: true; the input reads as it did. -/
def fnMasksUptoRow : OpenClaim := { program := "ytkfolcmahbnenaa", sum := "cc5cd41fc517309853c4e7cf41e803c045183e552c9026cc48ff5b7f626d36f1", func := "loop.example/g00985/laws.FnMasks", spec := "fnMasks", apart := false, narrowed := true }
def FnMasksUptoSaid : Prop := fnMasksUptoRow.holds Try.pinned (OpenSpec.upto fnMasksSpec)

/-- 'laws.FnExactIsMask', WHERE WHAT IT READS IS OF BULK AT MOST 1048576: true; the input reads as it did. -/
def fnExactIsMaskUptoRow : OpenClaim := { program := "ytkfolcmahbnenaa", sum := "cc5cd41fc517309853c4e7cf41e803c045183e552c9026cc48ff5b7f626d36f1", func := "loop.example/g00985/laws.FnExactIsMask", spec := "fnExactIsMask", apart := false, narrowed := true }
def FnExactIsMaskUptoSaid : Prop := fnExactIsMaskUptoRow.holds Try.pinned (OpenSpec.upto fnExactIsMaskSpec)

/-- 'laws.FnExactHasLane', WHERE WHAT IT READS IS OF BULK AT MOST 1048576: true; the input reads as it did. -/
def fnExactHasLaneUptoRow : OpenClaim := { program := "ytkfolcmahbnenaa", sum := "cc5cd41fc517309853c4e7cf41e803c045183e552c9026cc48ff5b7f626d36f1", func := "loop.example/g00985/laws.FnExactHasLane", spec := "fnExactHasLane", apart := false, narrowed := true }
def FnExactHasLaneUptoSaid : Prop := fnExactHasLaneUptoRow.holds Try.pinned (OpenSpec.upto fnExactHasLaneSpec)

/-- 'laws.FnExactCountLanes', WHERE WHAT IT READS IS OF BULK AT MOST 1048576: true; the input reads as it did. -/
def fnExactCountLanesUptoRow : OpenClaim := { program := "ytkfolcmahbnenaa", sum := "cc5cd41fc517309853c4e7cf41e803c045183e552c9026cc48ff5b7f626d36f1", func := "loop.example/g00985/laws.FnExactCountLanes", spec := "fnExactCountLanes", apart := false, narrowed := true }
def FnExactCountLanesUptoSaid : Prop := fnExactCountLanesUptoRow.holds Try.pinned (OpenSpec.upto fnExactCountLanesSpec)

/-- 'laws.FnExactLanesOf', WHERE WHAT IT READS IS OF BULK AT MOST 1048576: true; the input reads as it did. -/
def fnExactLanesOfUptoRow : OpenClaim := { program := "ytkfolcmahbnenaa", sum := "cc5cd41fc517309853c4e7cf41e803c045183e552c9026cc48ff5b7f626d36f1", func := "loop.example/g00985/laws.FnExactLanesOf", spec := "fnExactLanesOf", apart := false, narrowed := true }
def FnExactLanesOfUptoSaid : Prop := fnExactLanesOfUptoRow.holds Try.pinned (OpenSpec.upto fnExactLanesOfSpec)

/-- 'laws.FnExactMaskOf', WHERE WHAT IT READS IS OF BULK AT MOST 1048576: true; the input reads as it did. -/
def fnExactMaskOfUptoRow : OpenClaim := { program := "ytkfolcmahbnenaa", sum := "cc5cd41fc517309853c4e7cf41e803c045183e552c9026cc48ff5b7f626d36f1", func := "loop.example/g00985/laws.FnExactMaskOf", spec := "fnExactMaskOf", apart := false, narrowed := true }
def FnExactMaskOfUptoSaid : Prop := fnExactMaskOfUptoRow.holds Try.pinned (OpenSpec.upto fnExactMaskOfSpec)

/-- 'laws.FnExactSplitMask', WHERE WHAT IT READS IS OF BULK AT MOST 1048576: true; the input reads as it did. -/
def fnExactSplitMaskUptoRow : OpenClaim := { program := "ytkfolcmahbnenaa", sum := "cc5cd41fc517309853c4e7cf41e803c045183e552c9026cc48ff5b7f626d36f1", func := "loop.example/g00985/laws.FnExactSplitMask", spec := "fnExactSplitMask", apart := false, narrowed := true }
def FnExactSplitMaskUptoSaid : Prop := fnExactSplitMaskUptoRow.holds Try.pinned (OpenSpec.upto fnExactSplitMaskSpec)

end Rows
end Go.Proofs.Ytkfolcmahbnenaa
