/-
  No cell of these rows narrows 'for every input' (looked for: loops, veiled, ifaces, maps, wideKeys, modest, calm, conditions, laid).
  DERIVED. THE GIVEN ROWS OF THIS SEAT. 7 by the template 'for every input the law returns true; each argument reads behind the call as it read before'; 0 by the template 'total and deterministic' (their statements: YtoolnaknkabnjaaTotals.lean).
  GIVEN WITH THE SEED: the statements are not yours to turn. If you find one false, say at which input.
  Laid BY PROGRAM, IN A SANDBOX (cutbox-rows.mjs): the forced cells as the released guide's own fill.sh prints them over the translation d79600d0979b5db5… (all of the seat's roots in one cut). By AI agents, Wed Nov 11 2026. No macro, syntax, notation, axiom, sorry.
-/
import Derived.Test.YtoolnaknkabnjaaChecked
import GoSem.Claim
import GoSem.ClaimJoined
import GoSem.ClaimMapViews
import Derived.JoinedTies
import Derived.KernelRfl
namespace Go.Proofs.Ytoolnaknkabnjaa
/- THE CELL 'sum', in the pinned program and in every row, IS THE sha256 OF THE DUMP (.gsa) THAT YtoolnaknkabnjaaProg.lean LOADS. Nothing in Lean hashes anything: it is a label: what it is worth is what the hold of that sum in a sandbox is worth. -/
noncomputable def Try.pinned : Pinned := { name := "ytoolnaknkabnjaa", sum := "d79600d0979b5db5e9e46effa6dbaa122faa738617709c807008decce5ff6305", checked := Try.checked }
namespace Rows
def none {H : Type} : Left H := { results := [], args := [] }

/-- 'laws.FnReach': WHATEVER THE INPUT: true; the input reads as it did. -/
def fnReachSpec : ChangeSpec := { name := "fnReach", fn := fun _ => fun
  | [d] => { results := [.lit (.bool true)], args := [d] }
  | _ => none }
def fnReachRow : OpenClaim := { program := "ytoolnaknkabnjaa", sum := "d79600d0979b5db5e9e46effa6dbaa122faa738617709c807008decce5ff6305", func := "loop.example/g00985/laws.FnReach", spec := "fnReach", unfollowed := true, recurses := true, apart := false }
def FnReachSaid : Prop := fnReachRow.holds Try.pinned (OpenSpec.ofChange fnReachSpec)

/-- ITS FALSE NEIGHBOUR: 'it returns false'. Refute it at one input. -/
def fnReachWrong : ChangeSpec := { name := "fnReach", fn := fun _ => fun
  | [d] => { results := [.lit (.bool false)], args := [d] }
  | _ => none }
def FnReachWrongFalsely : Prop := fnReachRow.holds Try.pinned (OpenSpec.ofChange fnReachWrong)

/-- 'laws.FnBranches': WHATEVER THE INPUT: true; the input reads as it did. -/
def fnBranchesSpec : ChangeSpec := { name := "fnBranches", fn := fun _ => fun
  | [d] => { results := [.lit (.bool true)], args := [d] }
  | _ => none }
def fnBranchesRow : OpenClaim := { program := "ytoolnaknkabnjaa", sum := "d79600d0979b5db5e9e46effa6dbaa122faa738617709c807008decce5ff6305", func := "loop.example/g00985/laws.FnBranches", spec := "fnBranches", unfollowed := true, recurses := true, apart := false }
def FnBranchesSaid : Prop := fnBranchesRow.holds Try.pinned (OpenSpec.ofChange fnBranchesSpec)

/-- ITS FALSE NEIGHBOUR: 'it returns false'. Refute it at one input. -/
def fnBranchesWrong : ChangeSpec := { name := "fnBranches", fn := fun _ => fun
  | [d] => { results := [.lit (.bool false)], args := [d] }
  | _ => none }
def FnBranchesWrongFalsely : Prop := fnBranchesRow.holds Try.pinned (OpenSpec.ofChange fnBranchesWrong)

/-- 'laws.FnExactNextOf': WHATEVER THE INPUT: true; the input reads as it did. -/
def fnExactNextOfSpec : ChangeSpec := { name := "fnExactNextOf", fn := fun _ => fun
  | [d1, d2] => { results := [.lit (.bool true)], args := [d1, d2] }
  | _ => none }
def fnExactNextOfRow : OpenClaim := { program := "ytoolnaknkabnjaa", sum := "d79600d0979b5db5e9e46effa6dbaa122faa738617709c807008decce5ff6305", func := "loop.example/g00985/laws.FnExactNextOf", spec := "fnExactNextOf", unfollowed := true, recurses := true, apart := false }
def FnExactNextOfSaid : Prop := fnExactNextOfRow.holds Try.pinned (OpenSpec.ofChange fnExactNextOfSpec)

/-- ITS FALSE NEIGHBOUR: 'it returns false'. Refute it at one input. -/
def fnExactNextOfWrong : ChangeSpec := { name := "fnExactNextOf", fn := fun _ => fun
  | [d1, d2] => { results := [.lit (.bool false)], args := [d1, d2] }
  | _ => none }
def FnExactNextOfWrongFalsely : Prop := fnExactNextOfRow.holds Try.pinned (OpenSpec.ofChange fnExactNextOfWrong)

/-- 'laws.FnExactReachableFrom': WHATEVER THE INPUT: true; the input reads as it did. -/
def fnExactReachableFromSpec : ChangeSpec := { name := "fnExactReachableFrom", fn := fun _ => fun
  | [d1, d2] => { results := [.lit (.bool true)], args := [d1, d2] }
  | _ => none }
def fnExactReachableFromRow : OpenClaim := { program := "ytoolnaknkabnjaa", sum := "d79600d0979b5db5e9e46effa6dbaa122faa738617709c807008decce5ff6305", func := "loop.example/g00985/laws.FnExactReachableFrom", spec := "fnExactReachableFrom", unfollowed := true, recurses := true, apart := false }
def FnExactReachableFromSaid : Prop := fnExactReachableFromRow.holds Try.pinned (OpenSpec.ofChange fnExactReachableFromSpec)

/-- ITS FALSE NEIGHBOUR: 'it returns false'. Refute it at one input. -/
def fnExactReachableFromWrong : ChangeSpec := { name := "fnExactReachableFrom", fn := fun _ => fun
  | [d1, d2] => { results := [.lit (.bool false)], args := [d1, d2] }
  | _ => none }
def FnExactReachableFromWrongFalsely : Prop := fnExactReachableFromRow.holds Try.pinned (OpenSpec.ofChange fnExactReachableFromWrong)

/-- 'laws.FnExactReachesExit': WHATEVER THE INPUT: true; the input reads as it did. -/
def fnExactReachesExitSpec : ChangeSpec := { name := "fnExactReachesExit", fn := fun _ => fun
  | [d1, d2] => { results := [.lit (.bool true)], args := [d1, d2] }
  | _ => none }
def fnExactReachesExitRow : OpenClaim := { program := "ytoolnaknkabnjaa", sum := "d79600d0979b5db5e9e46effa6dbaa122faa738617709c807008decce5ff6305", func := "loop.example/g00985/laws.FnExactReachesExit", spec := "fnExactReachesExit", unfollowed := true, recurses := true, apart := false }
def FnExactReachesExitSaid : Prop := fnExactReachesExitRow.holds Try.pinned (OpenSpec.ofChange fnExactReachesExitSpec)

/-- ITS FALSE NEIGHBOUR: 'it returns false'. Refute it at one input. -/
def fnExactReachesExitWrong : ChangeSpec := { name := "fnExactReachesExit", fn := fun _ => fun
  | [d1, d2] => { results := [.lit (.bool false)], args := [d1, d2] }
  | _ => none }
def FnExactReachesExitWrongFalsely : Prop := fnExactReachesExitRow.holds Try.pinned (OpenSpec.ofChange fnExactReachesExitWrong)

/-- 'laws.FnExactAlwaysEnds': WHATEVER THE INPUT: true; the input reads as it did. -/
def fnExactAlwaysEndsSpec : ChangeSpec := { name := "fnExactAlwaysEnds", fn := fun _ => fun
  | [d] => { results := [.lit (.bool true)], args := [d] }
  | _ => none }
def fnExactAlwaysEndsRow : OpenClaim := { program := "ytoolnaknkabnjaa", sum := "d79600d0979b5db5e9e46effa6dbaa122faa738617709c807008decce5ff6305", func := "loop.example/g00985/laws.FnExactAlwaysEnds", spec := "fnExactAlwaysEnds", unfollowed := true, recurses := true, apart := false }
def FnExactAlwaysEndsSaid : Prop := fnExactAlwaysEndsRow.holds Try.pinned (OpenSpec.ofChange fnExactAlwaysEndsSpec)

/-- ITS FALSE NEIGHBOUR: 'it returns false'. Refute it at one input. -/
def fnExactAlwaysEndsWrong : ChangeSpec := { name := "fnExactAlwaysEnds", fn := fun _ => fun
  | [d] => { results := [.lit (.bool false)], args := [d] }
  | _ => none }
def FnExactAlwaysEndsWrongFalsely : Prop := fnExactAlwaysEndsRow.holds Try.pinned (OpenSpec.ofChange fnExactAlwaysEndsWrong)

/-- 'laws.FnExactBranchesOf': WHATEVER THE INPUT: true; the input reads as it did. -/
def fnExactBranchesOfSpec : ChangeSpec := { name := "fnExactBranchesOf", fn := fun _ => fun
  | [d] => { results := [.lit (.bool true)], args := [d] }
  | _ => none }
def fnExactBranchesOfRow : OpenClaim := { program := "ytoolnaknkabnjaa", sum := "d79600d0979b5db5e9e46effa6dbaa122faa738617709c807008decce5ff6305", func := "loop.example/g00985/laws.FnExactBranchesOf", spec := "fnExactBranchesOf", unfollowed := true, recurses := true, apart := false }
def FnExactBranchesOfSaid : Prop := fnExactBranchesOfRow.holds Try.pinned (OpenSpec.ofChange fnExactBranchesOfSpec)

/-- ITS FALSE NEIGHBOUR: 'it returns false'. Refute it at one input. -/
def fnExactBranchesOfWrong : ChangeSpec := { name := "fnExactBranchesOf", fn := fun _ => fun
  | [d] => { results := [.lit (.bool false)], args := [d] }
  | _ => none }
def FnExactBranchesOfWrongFalsely : Prop := fnExactBranchesOfRow.holds Try.pinned (OpenSpec.ofChange fnExactBranchesOfWrong)

/- THE SECOND FORM. 'bulk': how many values and letters a reading holds, each counted each time it is reached (what is shared counts as often as it is met; a slice's spare places count too). A statement '..UptoSaid' is the law's where the arguments, and the package variables that the reading takes, are together of bulk at most 1048576: NARROWER than '..Said'. Prove '..Said' where nothing that the law and all that it calls make is longer than what came in: it says more and counts as full. Else prove '..UptoSaid'. A law counts once. -/
mutual
def uptoBulk {H : Type} : DataW H → Nat
  | .lit (.string bytes) => bytes.length + 1
  | .lit _ => 1
  | .nil => 1
  | .ptr d => uptoBulk d + 1
  | .slice elems spare => uptoBulkAll elems + uptoBulkAll spare + 1
  | .agg parts => uptoBulkAll parts + 1
  | .iface _ d => uptoBulk d + 1
  | .map entries => uptoBulkEntries entries + 1
  | .held _ => 1
def uptoBulkAll {H : Type} : List (DataW H) → Nat
  | [] => 0
  | d :: r => uptoBulk d + uptoBulkAll r
def uptoBulkEntries {H : Type} : List (Lit × DataW H) → Nat
  | [] => 0
  | x :: r => uptoBulkEntry x + uptoBulkEntries r
def uptoBulkEntry {H : Type} : Lit × DataW H → Nat
  | (.string bytes, d) => bytes.length + uptoBulk d + 1
  | (_, d) => uptoBulk d + 1
 end
def uptoSmall : (H : Type) → List (DataW H) → Bool := fun _ ds => decide (uptoBulkAll ds ≤ 1048576)
def OpenSpec.upto (s : _root_.Go.ChangeSpec) : _root_.Go.OpenSpec := { _root_.Go.OpenSpec.ofChange s with cond := some uptoSmall }

/-- 'laws.FnReach', WHERE WHAT IT READS IS OF BULK AT MOST 1048576: true; the input reads as it did. -/
def fnReachUptoRow : OpenClaim := { program := "ytoolnaknkabnjaa", sum := "d79600d0979b5db5e9e46effa6dbaa122faa738617709c807008decce5ff6305", func := "loop.example/g00985/laws.FnReach", spec := "fnReach", unfollowed := true, recurses := true, apart := false, narrowed := true }
def FnReachUptoSaid : Prop := fnReachUptoRow.holds Try.pinned (OpenSpec.upto fnReachSpec)

/-- 'laws.FnBranches', WHERE WHAT IT READS IS OF BULK AT MOST 1048576: true; the input reads as it did. -/
def fnBranchesUptoRow : OpenClaim := { program := "ytoolnaknkabnjaa", sum := "d79600d0979b5db5e9e46effa6dbaa122faa738617709c807008decce5ff6305", func := "loop.example/g00985/laws.FnBranches", spec := "fnBranches", unfollowed := true, recurses := true, apart := false, narrowed := true }
def FnBranchesUptoSaid : Prop := fnBranchesUptoRow.holds Try.pinned (OpenSpec.upto fnBranchesSpec)

/-- 'laws.FnExactNextOf', WHERE WHAT IT READS IS OF BULK AT MOST 1048576: true; the input reads as it did. -/
def fnExactNextOfUptoRow : OpenClaim := { program := "ytoolnaknkabnjaa", sum := "d79600d0979b5db5e9e46effa6dbaa122faa738617709c807008decce5ff6305", func := "loop.example/g00985/laws.FnExactNextOf", spec := "fnExactNextOf", unfollowed := true, recurses := true, apart := false, narrowed := true }
def FnExactNextOfUptoSaid : Prop := fnExactNextOfUptoRow.holds Try.pinned (OpenSpec.upto fnExactNextOfSpec)

/-- 'laws.FnExactReachableFrom', WHERE WHAT IT READS IS OF BULK AT MOST 1048576: true; the input reads as it did. -/
def fnExactReachableFromUptoRow : OpenClaim := { program := "ytoolnaknkabnjaa", sum := "d79600d0979b5db5e9e46effa6dbaa122faa738617709c807008decce5ff6305", func := "loop.example/g00985/laws.FnExactReachableFrom", spec := "fnExactReachableFrom", unfollowed := true, recurses := true, apart := false, narrowed := true }
def FnExactReachableFromUptoSaid : Prop := fnExactReachableFromUptoRow.holds Try.pinned (OpenSpec.upto fnExactReachableFromSpec)

/-- 'laws.FnExactReachesExit', WHERE WHAT IT READS IS OF BULK AT MOST 1048576: true; the input reads as it did. -/
def fnExactReachesExitUptoRow : OpenClaim := { program := "ytoolnaknkabnjaa", sum := "d79600d0979b5db5e9e46effa6dbaa122faa738617709c807008decce5ff6305", func := "loop.example/g00985/laws.FnExactReachesExit", spec := "fnExactReachesExit", unfollowed := true, recurses := true, apart := false, narrowed := true }
def FnExactReachesExitUptoSaid : Prop := fnExactReachesExitUptoRow.holds Try.pinned (OpenSpec.upto fnExactReachesExitSpec)

/-- 'laws.FnExactAlwaysEnds', WHERE WHAT IT READS IS OF BULK AT MOST 1048576: true; the input reads as it did. -/
def fnExactAlwaysEndsUptoRow : OpenClaim := { program := "ytoolnaknkabnjaa", sum := "d79600d0979b5db5e9e46effa6dbaa122faa738617709c807008decce5ff6305", func := "loop.example/g00985/laws.FnExactAlwaysEnds", spec := "fnExactAlwaysEnds", unfollowed := true, recurses := true, apart := false, narrowed := true }
def FnExactAlwaysEndsUptoSaid : Prop := fnExactAlwaysEndsUptoRow.holds Try.pinned (OpenSpec.upto fnExactAlwaysEndsSpec)

/-- 'laws.FnExactBranchesOf', WHERE WHAT IT READS IS OF BULK AT MOST 1048576: true; the input reads as it did. -/
def fnExactBranchesOfUptoRow : OpenClaim := { program := "ytoolnaknkabnjaa", sum := "d79600d0979b5db5e9e46effa6dbaa122faa738617709c807008decce5ff6305", func := "loop.example/g00985/laws.FnExactBranchesOf", spec := "fnExactBranchesOf", unfollowed := true, recurses := true, apart := false, narrowed := true }
def FnExactBranchesOfUptoSaid : Prop := fnExactBranchesOfUptoRow.holds Try.pinned (OpenSpec.upto fnExactBranchesOfSpec)

end Rows
end Go.Proofs.Ytoolnaknkabnjaa
