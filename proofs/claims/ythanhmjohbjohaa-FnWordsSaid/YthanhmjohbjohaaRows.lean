/-
  No cell of these rows narrows 'for every input' (looked for: loops, veiled, ifaces, maps, wideKeys, modest, calm, conditions, laid).
  DERIVED. THE GIVEN ROWS OF THIS SEAT. 8 by the template 'for every input the law returns true; each argument reads behind the call as it read before'; 0 by the template 'total and deterministic' (their statements: YthanhmjohbjohaaTotals.lean).
  GIVEN WITH THE SEED: the statements are not yours to turn. If you find one false, say at which input.
  Laid BY PROGRAM, IN A SANDBOX (cutbox-rows.mjs): the forced cells as the released guide's own fill.sh prints them over the translation 29a6fc60695915f6… (all of the seat's roots in one cut). By AI agents, Wed Nov 11 2026. No macro, syntax, notation, axiom, sorry.
-/
import Derived.Test.YthanhmjohbjohaaChecked
import GoSem.Claim
import GoSem.ClaimJoined
import GoSem.ClaimMapViews
import Derived.JoinedTies
import Derived.KernelRfl
namespace Go.Proofs.Ythanhmjohbjohaa
/- THE CELL 'sum', in the pinned program and in every row, IS THE sha256 OF THE DUMP (.gsa) THAT YthanhmjohbjohaaProg.lean LOADS. Nothing in Lean hashes anything: it is a label: what it is worth is what the hold of that sum in a sandbox is worth. -/
noncomputable def Try.pinned : Pinned := { name := "ythanhmjohbjohaa", sum := "29a6fc60695915f63187086c07f3df700063ed00281e52a6c669b24da10d11c4", checked := Try.checked }
namespace Rows
def none {H : Type} : Left H := { results := [], args := [] }

/-- 'laws.FnWords': WHATEVER THE INPUT: true; the input reads as it did. -/
def fnWordsSpec : ChangeSpec := { name := "fnWords", fn := fun _ => fun
  | [d] => { results := [.lit (.bool true)], args := [d] }
  | _ => none }
def fnWordsRow : OpenClaim := { program := "ythanhmjohbjohaa", sum := "29a6fc60695915f63187086c07f3df700063ed00281e52a6c669b24da10d11c4", func := "loop.example/g00985/laws.FnWords", spec := "fnWords", unfollowed := true, recurses := true, apart := false }
def FnWordsSaid : Prop := fnWordsRow.holds Try.pinned (OpenSpec.ofChange fnWordsSpec)

/-- ITS FALSE NEIGHBOUR: 'it returns false'. Refute it at one input. -/
def fnWordsWrong : ChangeSpec := { name := "fnWords", fn := fun _ => fun
  | [d] => { results := [.lit (.bool false)], args := [d] }
  | _ => none }
def FnWordsWrongFalsely : Prop := fnWordsRow.holds Try.pinned (OpenSpec.ofChange fnWordsWrong)

/-- 'laws.FnExactIsWord': WHATEVER THE INPUT: true; the input reads as it did. -/
def fnExactIsWordSpec : ChangeSpec := { name := "fnExactIsWord", fn := fun _ => fun
  | [d] => { results := [.lit (.bool true)], args := [d] }
  | _ => none }
def fnExactIsWordRow : OpenClaim := { program := "ythanhmjohbjohaa", sum := "29a6fc60695915f63187086c07f3df700063ed00281e52a6c669b24da10d11c4", func := "loop.example/g00985/laws.FnExactIsWord", spec := "fnExactIsWord", apart := false }
def FnExactIsWordSaid : Prop := fnExactIsWordRow.holds Try.pinned (OpenSpec.ofChange fnExactIsWordSpec)

/-- ITS FALSE NEIGHBOUR: 'it returns false'. Refute it at one input. -/
def fnExactIsWordWrong : ChangeSpec := { name := "fnExactIsWord", fn := fun _ => fun
  | [d] => { results := [.lit (.bool false)], args := [d] }
  | _ => none }
def FnExactIsWordWrongFalsely : Prop := fnExactIsWordRow.holds Try.pinned (OpenSpec.ofChange fnExactIsWordWrong)

/-- 'laws.FnExactWrapWord': WHATEVER THE INPUT: true; the input reads as it did. -/
def fnExactWrapWordSpec : ChangeSpec := { name := "fnExactWrapWord", fn := fun _ => fun
  | [d] => { results := [.lit (.bool true)], args := [d] }
  | _ => none }
def fnExactWrapWordRow : OpenClaim := { program := "ythanhmjohbjohaa", sum := "29a6fc60695915f63187086c07f3df700063ed00281e52a6c669b24da10d11c4", func := "loop.example/g00985/laws.FnExactWrapWord", spec := "fnExactWrapWord", apart := false }
def FnExactWrapWordSaid : Prop := fnExactWrapWordRow.holds Try.pinned (OpenSpec.ofChange fnExactWrapWordSpec)

/-- ITS FALSE NEIGHBOUR: 'it returns false'. Refute it at one input. -/
def fnExactWrapWordWrong : ChangeSpec := { name := "fnExactWrapWord", fn := fun _ => fun
  | [d] => { results := [.lit (.bool false)], args := [d] }
  | _ => none }
def FnExactWrapWordWrongFalsely : Prop := fnExactWrapWordRow.holds Try.pinned (OpenSpec.ofChange fnExactWrapWordWrong)

/-- 'laws.FnExactAddWords': WHATEVER THE INPUT: true; the input reads as it did. -/
def fnExactAddWordsSpec : ChangeSpec := { name := "fnExactAddWords", fn := fun _ => fun
  | [d1, d2] => { results := [.lit (.bool true)], args := [d1, d2] }
  | _ => none }
def fnExactAddWordsRow : OpenClaim := { program := "ythanhmjohbjohaa", sum := "29a6fc60695915f63187086c07f3df700063ed00281e52a6c669b24da10d11c4", func := "loop.example/g00985/laws.FnExactAddWords", spec := "fnExactAddWords", unfollowed := true, recurses := true, apart := false }
def FnExactAddWordsSaid : Prop := fnExactAddWordsRow.holds Try.pinned (OpenSpec.ofChange fnExactAddWordsSpec)

/-- ITS FALSE NEIGHBOUR: 'it returns false'. Refute it at one input. -/
def fnExactAddWordsWrong : ChangeSpec := { name := "fnExactAddWords", fn := fun _ => fun
  | [d1, d2] => { results := [.lit (.bool false)], args := [d1, d2] }
  | _ => none }
def FnExactAddWordsWrongFalsely : Prop := fnExactAddWordsRow.holds Try.pinned (OpenSpec.ofChange fnExactAddWordsWrong)

/-- 'laws.FnExactSubWords': WHATEVER THE INPUT: true; the input reads as it did. -/
def fnExactSubWordsSpec : ChangeSpec := { name := "fnExactSubWords", fn := fun _ => fun
  | [d1, d2] => { results := [.lit (.bool true)], args := [d1, d2] }
  | _ => none }
def fnExactSubWordsRow : OpenClaim := { program := "ythanhmjohbjohaa", sum := "29a6fc60695915f63187086c07f3df700063ed00281e52a6c669b24da10d11c4", func := "loop.example/g00985/laws.FnExactSubWords", spec := "fnExactSubWords", unfollowed := true, recurses := true, apart := false }
def FnExactSubWordsSaid : Prop := fnExactSubWordsRow.holds Try.pinned (OpenSpec.ofChange fnExactSubWordsSpec)

/-- ITS FALSE NEIGHBOUR: 'it returns false'. Refute it at one input. -/
def fnExactSubWordsWrong : ChangeSpec := { name := "fnExactSubWords", fn := fun _ => fun
  | [d1, d2] => { results := [.lit (.bool false)], args := [d1, d2] }
  | _ => none }
def FnExactSubWordsWrongFalsely : Prop := fnExactSubWordsRow.holds Try.pinned (OpenSpec.ofChange fnExactSubWordsWrong)

/-- 'laws.FnExactMulWords': WHATEVER THE INPUT: true; the input reads as it did. -/
def fnExactMulWordsSpec : ChangeSpec := { name := "fnExactMulWords", fn := fun _ => fun
  | [d1, d2] => { results := [.lit (.bool true)], args := [d1, d2] }
  | _ => none }
def fnExactMulWordsRow : OpenClaim := { program := "ythanhmjohbjohaa", sum := "29a6fc60695915f63187086c07f3df700063ed00281e52a6c669b24da10d11c4", func := "loop.example/g00985/laws.FnExactMulWords", spec := "fnExactMulWords", unfollowed := true, recurses := true, apart := false }
def FnExactMulWordsSaid : Prop := fnExactMulWordsRow.holds Try.pinned (OpenSpec.ofChange fnExactMulWordsSpec)

/-- ITS FALSE NEIGHBOUR: 'it returns false'. Refute it at one input. -/
def fnExactMulWordsWrong : ChangeSpec := { name := "fnExactMulWords", fn := fun _ => fun
  | [d1, d2] => { results := [.lit (.bool false)], args := [d1, d2] }
  | _ => none }
def FnExactMulWordsWrongFalsely : Prop := fnExactMulWordsRow.holds Try.pinned (OpenSpec.ofChange fnExactMulWordsWrong)

/-- 'laws.FnExactLessWords': WHATEVER THE INPUT: true; the input reads as it did. -/
def fnExactLessWordsSpec : ChangeSpec := { name := "fnExactLessWords", fn := fun _ => fun
  | [d1, d2] => { results := [.lit (.bool true)], args := [d1, d2] }
  | _ => none }
def fnExactLessWordsRow : OpenClaim := { program := "ythanhmjohbjohaa", sum := "29a6fc60695915f63187086c07f3df700063ed00281e52a6c669b24da10d11c4", func := "loop.example/g00985/laws.FnExactLessWords", spec := "fnExactLessWords", unfollowed := true, recurses := true, apart := false }
def FnExactLessWordsSaid : Prop := fnExactLessWordsRow.holds Try.pinned (OpenSpec.ofChange fnExactLessWordsSpec)

/-- ITS FALSE NEIGHBOUR: 'it returns false'. Refute it at one input. -/
def fnExactLessWordsWrong : ChangeSpec := { name := "fnExactLessWords", fn := fun _ => fun
  | [d1, d2] => { results := [.lit (.bool false)], args := [d1, d2] }
  | _ => none }
def FnExactLessWordsWrongFalsely : Prop := fnExactLessWordsRow.holds Try.pinned (OpenSpec.ofChange fnExactLessWordsWrong)

/-- 'laws.FnExactAreWords': WHATEVER THE INPUT: true; the input reads as it did. -/
def fnExactAreWordsSpec : ChangeSpec := { name := "fnExactAreWords", fn := fun _ => fun
  | [d] => { results := [.lit (.bool true)], args := [d] }
  | _ => none }
def fnExactAreWordsRow : OpenClaim := { program := "ythanhmjohbjohaa", sum := "29a6fc60695915f63187086c07f3df700063ed00281e52a6c669b24da10d11c4", func := "loop.example/g00985/laws.FnExactAreWords", spec := "fnExactAreWords", apart := false }
def FnExactAreWordsSaid : Prop := fnExactAreWordsRow.holds Try.pinned (OpenSpec.ofChange fnExactAreWordsSpec)

/-- ITS FALSE NEIGHBOUR: 'it returns false'. Refute it at one input. -/
def fnExactAreWordsWrong : ChangeSpec := { name := "fnExactAreWords", fn := fun _ => fun
  | [d] => { results := [.lit (.bool false)], args := [d] }
  | _ => none }
def FnExactAreWordsWrongFalsely : Prop := fnExactAreWordsRow.holds Try.pinned (OpenSpec.ofChange fnExactAreWordsWrong)

/- THE SECOND FORM. 'bulk': how many values and letters a reading holds, each counted each time it is reached (what is shared counts as often as it is met; a slice's spare places count too). A statement '..UptoSaid' is the law's where the arguments, and the package variables that the reading takes, are together of bulk at most 1048576: NARROWER than '..Said'. Prove '..Said' where nothing that the law and all that it calls make is longer than what came in: it says more and counts as full. Else prove '..UptoSaid'. A law counts once. -/
mutual
def uptoBulk {H : Type} : DataW H → Nat
  | .lit (.string bytes) => bytes.length + 1
  | .lit _ => 1
  | .nil => 1
  | .ptr d => uptoBulk d + 1
  | .slice elems spare => uptoBulkAll elems + uptoBulkAll spare + 1
  | .agg parts => uptoBulkAll parts + 1
  | .iface _ d => uptoBulk d + 1
  | .map entries => uptoBulkEntries entries + 1
  | .held _ => 1
def uptoBulkAll {H : Type} : List (DataW H) → Nat
  | [] => 0
  | d :: r => uptoBulk d + uptoBulkAll r
def uptoBulkEntries {H : Type} : List (Lit × DataW H) → Nat
  | [] => 0
  | x :: r => uptoBulkEntry x + uptoBulkEntries r
def uptoBulkEntry {H : Type} : Lit × DataW H → Nat
  | (.string bytes, d) => bytes.length + uptoBulk d + 1
  | (_, d) => uptoBulk d + 1
 end
def uptoSmall : (H : Type) → List (DataW H) → Bool := fun _ ds => decide (uptoBulkAll ds ≤ 1048576)
def OpenSpec.upto (s : _root_.Go.ChangeSpec) : _root_.Go.OpenSpec := { _root_.Go.OpenSpec.ofChange s with cond := some uptoSmall }

/-- 'laws.FnWords', WHERE WHAT IT READS IS OF BULK AT MOST 1048576: true; the input reads as it did. -/
def fnWordsUptoRow : OpenClaim := { program := "ythanhmjohbjohaa", sum := "29a6fc60695915f63187086c07f3df700063ed00281e52a6c669b24da10d11c4", func := "loop.example/g00985/laws.FnWords", spec := "fnWords", unfollowed := true, recurses := true, apart := false, narrowed := true }
def FnWordsUptoSaid : Prop := fnWordsUptoRow.holds Try.pinned (OpenSpec.upto fnWordsSpec)

/-- 'laws.FnExactIsWord', WHERE WHAT IT READS IS OF BULK AT MOST 1048576: true; the input reads as it did. -/
def fnExactIsWordUptoRow : OpenClaim := { program := "ythanhmjohbjohaa", sum := "29a6fc60695915f63187086c07f3df700063ed00281e52a6c669b24da10d11c4", func := "loop.example/g00985/laws.FnExactIsWord", spec := "fnExactIsWord", apart := false, narrowed := true }
def FnExactIsWordUptoSaid : Prop := fnExactIsWordUptoRow.holds Try.pinned (OpenSpec.upto fnExactIsWordSpec)

/-- 'laws.FnExactWrapWord', WHERE WHAT IT READS IS OF BULK AT MOST 1048576: true; the input reads as it did. -/
def fnExactWrapWordUptoRow : OpenClaim := { program := "ythanhmjohbjohaa", sum := "29a6fc60695915f63187086c07f3df700063ed00281e52a6c669b24da10d11c4", func := "loop.example/g00985/laws.FnExactWrapWord", spec := "fnExactWrapWord", apart := false, narrowed := true }
def FnExactWrapWordUptoSaid : Prop := fnExactWrapWordUptoRow.holds Try.pinned (OpenSpec.upto fnExactWrapWordSpec)

/-- 'laws.FnExactAddWords', WHERE WHAT IT READS IS OF BULK AT MOST 1048576: true; the input reads as it did. -/
def fnExactAddWordsUptoRow : OpenClaim := { program := "ythanhmjohbjohaa", sum := "29a6fc60695915f63187086c07f3df700063ed00281e52a6c669b24da10d11c4", func := "loop.example/g00985/laws.FnExactAddWords", spec := "fnExactAddWords", unfollowed := true, recurses := true, apart := false, narrowed := true }
def FnExactAddWordsUptoSaid : Prop := fnExactAddWordsUptoRow.holds Try.pinned (OpenSpec.upto fnExactAddWordsSpec)

/-- 'laws.FnExactSubWords', WHERE WHAT IT READS IS OF BULK AT MOST 1048576: true; the input reads as it did. -/
def fnExactSubWordsUptoRow : OpenClaim := { program := "ythanhmjohbjohaa", sum := "29a6fc60695915f63187086c07f3df700063ed00281e52a6c669b24da10d11c4", func := "loop.example/g00985/laws.FnExactSubWords", spec := "fnExactSubWords", unfollowed := true, recurses := true, apart := false, narrowed := true }
def FnExactSubWordsUptoSaid : Prop := fnExactSubWordsUptoRow.holds Try.pinned (OpenSpec.upto fnExactSubWordsSpec)

/-- 'laws.FnExactMulWords', WHERE WHAT IT READS IS OF BULK AT MOST 1048576: true; the input reads as it did. -/
def fnExactMulWordsUptoRow : OpenClaim := { program := "ythanhmjohbjohaa", sum := "29a6fc60695915f63187086c07f3df700063ed00281e52a6c669b24da10d11c4", func := "loop.example/g00985/laws.FnExactMulWords", spec := "fnExactMulWords", unfollowed := true, recurses := true, apart := false, narrowed := true }
def FnExactMulWordsUptoSaid : Prop := fnExactMulWordsUptoRow.holds Try.pinned (OpenSpec.upto fnExactMulWordsSpec)

/-- 'laws.FnExactLessWords', WHERE WHAT IT READS IS OF BULK AT MOST 1048576: true; the input reads as it did. -/
def fnExactLessWordsUptoRow : OpenClaim := { program := "ythanhmjohbjohaa", sum := "29a6fc60695915f63187086c07f3df700063ed00281e52a6c669b24da10d11c4", func := "loop.example/g00985/laws.FnExactLessWords", spec := "fnExactLessWords", unfollowed := true, recurses := true, apart := false, narrowed := true }
def FnExactLessWordsUptoSaid : Prop := fnExactLessWordsUptoRow.holds Try.pinned (OpenSpec.upto fnExactLessWordsSpec)

/-- 'laws.FnExactAreWords', WHERE WHAT IT READS IS OF BULK AT MOST 1048576: true; the input reads as it did. -/
def fnExactAreWordsUptoRow : OpenClaim := { program := "ythanhmjohbjohaa", sum := "29a6fc60695915f63187086c07f3df700063ed00281e52a6c669b24da10d11c4", func := "loop.example/g00985/laws.FnExactAreWords", spec := "fnExactAreWords", apart := false, narrowed := true }
def FnExactAreWordsUptoSaid : Prop := fnExactAreWordsUptoRow.holds Try.pinned (OpenSpec.upto fnExactAreWordsSpec)

end Rows
end Go.Proofs.Ythanhmjohbjohaa
