/-
  DERIVED. GIVEN WITH THE SEED: THE CARDS: each row of YtceicbncnhmkoaaDoorRows.lean that lists a variable, with what it lists TIED to the program's text (the seventh form; the later family's looks); each row that meets fmt, with fmt's text TOLD by the authors' own Lean function (tested against real Go, not proved from fmt's source: count such statements apart). THE CARD IS WHAT COUNTS. Prove the row's statement (the work); the ties are given (YtceicbncnhmkoaaDoorTie.lean); close each card by the builder's one call (the guide's Derived/Test/ToyasCard.lean, 'card_holds'). Laid BY PROGRAM, IN A SANDBOX (cutbox-door.mjs). By AI agents, Wed Nov 11 2026. No macro, syntax, notation, axiom, sorry.
-/
import Derived.Test.YtceicbncnhmkoaaDoorRows
import GoSem.ClaimSeven
namespace Go.Proofs.YtceicbncnhmkoaaDoor
namespace Rows

/-- THE TIED CARD OF 'laws.FnListings'. -/
def fnListingsCard : Claim7 := { stood := { row := fnListingsRow, standIns := [], harness := (true, "fd86b4005a5d81f5ab3db7c8ae08640af5a7cd5ea59905979ed8e62728355912"), looks := true }, kinds := [], alts := [], laidByText := true, laidKinds := [.data, .data, .data, .sentinel, .sentinel, .data], laidTests := true, laidLooks := .later }
def FnListingsCardSaid : Prop := Claim7.holds Tryd.pinned (.plain (OpenSpec.ofChange fnListingsSpec)) fnListingsCard

/-- THE TIED CARD OF 'laws.FnExactFormatIns'. -/
def fnExactFormatInsCard : Claim7 := { stood := { row := fnExactFormatInsRow, standIns := [], harness := (true, "fd86b4005a5d81f5ab3db7c8ae08640af5a7cd5ea59905979ed8e62728355912"), looks := true }, kinds := [], alts := [], laidByText := true, laidKinds := [.data, .data, .data, .data], laidTests := true, laidLooks := .later }
def FnExactFormatInsCardSaid : Prop := Claim7.holds Tryd.pinned (.plain (OpenSpec.ofChange fnExactFormatInsSpec)) fnExactFormatInsCard

/-- THE TIED CARD OF 'laws.FnExactParseIns'. -/
def fnExactParseInsCard : Claim7 := { stood := { row := fnExactParseInsRow, standIns := [], harness := (true, "fd86b4005a5d81f5ab3db7c8ae08640af5a7cd5ea59905979ed8e62728355912"), looks := true }, kinds := [], alts := [], laidByText := true, laidKinds := [.data, .data, .data, .sentinel, .sentinel], laidTests := true, laidLooks := .later }
def FnExactParseInsCardSaid : Prop := Claim7.holds Tryd.pinned (.plain (OpenSpec.ofChange fnExactParseInsSpec)) fnExactParseInsCard

/-- THE TIED CARD OF 'laws.FnExactFormatProgram'. -/
def fnExactFormatProgramCard : Claim7 := { stood := { row := fnExactFormatProgramRow, standIns := [], harness := (true, "fd86b4005a5d81f5ab3db7c8ae08640af5a7cd5ea59905979ed8e62728355912"), looks := true }, kinds := [], alts := [], laidByText := true, laidKinds := [.data, .data, .data, .data], laidTests := true, laidLooks := .later }
def FnExactFormatProgramCardSaid : Prop := Claim7.holds Tryd.pinned (.plain (OpenSpec.ofChange fnExactFormatProgramSpec)) fnExactFormatProgramCard

/-- THE TIED CARD OF 'laws.FnExactParseProgram'. -/
def fnExactParseProgramCard : Claim7 := { stood := { row := fnExactParseProgramRow, standIns := [], harness := (true, "fd86b4005a5d81f5ab3db7c8ae08640af5a7cd5ea59905979ed8e62728355912"), looks := true }, kinds := [], alts := [], laidByText := true, laidKinds := [.data, .data, .data, .sentinel, .sentinel], laidTests := true, laidLooks := .later }
def FnExactParseProgramCardSaid : Prop := Claim7.holds Tryd.pinned (.plain (OpenSpec.ofChange fnExactParseProgramSpec)) fnExactParseProgramCard

/-- THE SECOND FORM's CARD OF 'laws.FnListings'. -/
def fnListingsUptoCard : Claim7 := { stood := { row := fnListingsUptoRow, standIns := [], harness := (true, "fd86b4005a5d81f5ab3db7c8ae08640af5a7cd5ea59905979ed8e62728355912"), looks := true }, kinds := [], alts := [], laidByText := true, laidKinds := [.data, .data, .data, .sentinel, .sentinel, .data], laidTests := true, laidLooks := .later }
def FnListingsUptoCardSaid : Prop := Claim7.holds Tryd.pinned (.plain (OpenSpec.upto fnListingsSpec)) fnListingsUptoCard

/-- THE SECOND FORM's CARD OF 'laws.FnExactFormatIns'. -/
def fnExactFormatInsUptoCard : Claim7 := { stood := { row := fnExactFormatInsUptoRow, standIns := [], harness := (true, "fd86b4005a5d81f5ab3db7c8ae08640af5a7cd5ea59905979ed8e62728355912"), looks := true }, kinds := [], alts := [], laidByText := true, laidKinds := [.data, .data, .data, .data], laidTests := true, laidLooks := .later }
def FnExactFormatInsUptoCardSaid : Prop := Claim7.holds Tryd.pinned (.plain (OpenSpec.upto fnExactFormatInsSpec)) fnExactFormatInsUptoCard

/-- THE SECOND FORM's CARD OF 'laws.FnExactParseIns'. -/
def fnExactParseInsUptoCard : Claim7 := { stood := { row := fnExactParseInsUptoRow, standIns := [], harness := (true, "fd86b4005a5d81f5ab3db7c8ae08640af5a7cd5ea59905979ed8e62728355912"), looks := true }, kinds := [], alts := [], laidByText := true, laidKinds := [.data, .data, .data, .sentinel, .sentinel], laidTests := true, laidLooks := .later }
def FnExactParseInsUptoCardSaid : Prop := Claim7.holds Tryd.pinned (.plain (OpenSpec.upto fnExactParseInsSpec)) fnExactParseInsUptoCard

/-- THE SECOND FORM's CARD OF 'laws.FnExactFormatProgram'. -/
def fnExactFormatProgramUptoCard : Claim7 := { stood := { row := fnExactFormatProgramUptoRow, standIns := [], harness := (true, "fd86b4005a5d81f5ab3db7c8ae08640af5a7cd5ea59905979ed8e62728355912"), looks := true }, kinds := [], alts := [], laidByText := true, laidKinds := [.data, .data, .data, .data], laidTests := true, laidLooks := .later }
def FnExactFormatProgramUptoCardSaid : Prop := Claim7.holds Tryd.pinned (.plain (OpenSpec.upto fnExactFormatProgramSpec)) fnExactFormatProgramUptoCard

/-- THE SECOND FORM's CARD OF 'laws.FnExactParseProgram'. -/
def fnExactParseProgramUptoCard : Claim7 := { stood := { row := fnExactParseProgramUptoRow, standIns := [], harness := (true, "fd86b4005a5d81f5ab3db7c8ae08640af5a7cd5ea59905979ed8e62728355912"), looks := true }, kinds := [], alts := [], laidByText := true, laidKinds := [.data, .data, .data, .sentinel, .sentinel], laidTests := true, laidLooks := .later }
def FnExactParseProgramUptoCardSaid : Prop := Claim7.holds Tryd.pinned (.plain (OpenSpec.upto fnExactParseProgramSpec)) fnExactParseProgramUptoCard
end Rows
end Go.Proofs.YtceicbncnhmkoaaDoor
