/-
  DERIVED. GIVEN WITH THE SEED: THE CARDS: each row of YtigmbkcjmlpfoaaGreatDoorRows.lean that lists a variable, with what it lists TIED to the program's text (the seventh form; the later family's looks); each row that meets fmt, with fmt's text TOLD by the authors' own Lean function (tested against real Go, not proved from fmt's source: count such statements apart). THE CARD IS WHAT COUNTS. Prove the row's statement (the work); the ties are given (YtigmbkcjmlpfoaaGreatDoorTie.lean); close each card by the builder's one call (the guide's Derived/Test/ToyasCard.lean, 'card_holds'). Laid BY PROGRAM, IN A SANDBOX (cutbox-door.mjs). By AI agents, Wed Nov 11 2026. No macro, syntax, notation, axiom, sorry.
-/
import Derived.Test.YtigmbkcjmlpfoaaGreatDoorRows
import GoSem.ClaimSeven
namespace Go.Proofs.YtigmbkcjmlpfoaaGreatDoor
namespace Rows

/-- THE TIED CARD OF 'solsticelaw09.RuleBack'. -/
def ruleBackCard : Claim7 := { stood := { row := ruleBackRow, standIns := [], harness := (true, "f8ad3117b6a5cba4d0263045fe5b0346a26999fe3fc247ec204604b8352a413f"), looks := false }, kinds := [], alts := [], laidByText := true, laidKinds := [.data, .data, .data, .data, .data, .pinned], laidTests := true, laidLooks := .later }
def RuleBackCardSaid : Prop := Claim7.holds Tryz.pinned (.plain (OpenSpec.ofChange ruleBackSpec)) ruleBackCard

/-- THE TIED CARD OF 'solsticelaw10.EraBack'. -/
def eraBackCard : Claim7 := { stood := { row := eraBackRow, standIns := [], harness := (true, "f8ad3117b6a5cba4d0263045fe5b0346a26999fe3fc247ec204604b8352a413f"), looks := false }, kinds := [], alts := [], laidByText := true, laidKinds := [.data, .data, .data, .data, .data, .data, .pinned], laidTests := true, laidLooks := .later }
def EraBackCardSaid : Prop := Claim7.holds Tryz.pinned (.plain (OpenSpec.ofChange eraBackSpec)) eraBackCard

/-- THE TIED CARD OF 'solsticetop.TopLines'. -/
def topLinesCard : Claim7 := { stood := { row := topLinesRow, standIns := [], harness := (true, "f8ad3117b6a5cba4d0263045fe5b0346a26999fe3fc247ec204604b8352a413f"), looks := false }, kinds := [], alts := [], laidByText := true, laidKinds := [.data, .data, .data, .data, .data, .data, .pinned], laidTests := true, laidLooks := .later }
def TopLinesCardSaid : Prop := Claim7.holds Tryz.pinned (.plain (OpenSpec.ofChange topLinesSpec)) topLinesCard

/-- THE TIED CARD OF 'solsticetop.TopShorter'. -/
def topShorterCard : Claim7 := { stood := { row := topShorterRow, standIns := [], harness := (true, "f8ad3117b6a5cba4d0263045fe5b0346a26999fe3fc247ec204604b8352a413f"), looks := false }, kinds := [], alts := [], laidByText := true, laidKinds := [.data, .data, .data, .data, .data, .data, .pinned], laidTests := true, laidLooks := .later }
def TopShorterCardSaid : Prop := Claim7.holds Tryz.pinned (.plain (OpenSpec.ofChange topShorterSpec)) topShorterCard

/-- THE SECOND FORM's CARD OF 'solsticelaw09.RuleBack'. -/
def ruleBackUptoCard : Claim7 := { stood := { row := ruleBackUptoRow, standIns := [], harness := (true, "f8ad3117b6a5cba4d0263045fe5b0346a26999fe3fc247ec204604b8352a413f"), looks := false }, kinds := [], alts := [], laidByText := true, laidKinds := [.data, .data, .data, .data, .data, .pinned], laidTests := true, laidLooks := .later }
def RuleBackUptoCardSaid : Prop := Claim7.holds Tryz.pinned (.plain (OpenSpec.upto ruleBackSpec)) ruleBackUptoCard

/-- THE SECOND FORM's CARD OF 'solsticelaw10.EraBack'. -/
def eraBackUptoCard : Claim7 := { stood := { row := eraBackUptoRow, standIns := [], harness := (true, "f8ad3117b6a5cba4d0263045fe5b0346a26999fe3fc247ec204604b8352a413f"), looks := false }, kinds := [], alts := [], laidByText := true, laidKinds := [.data, .data, .data, .data, .data, .data, .pinned], laidTests := true, laidLooks := .later }
def EraBackUptoCardSaid : Prop := Claim7.holds Tryz.pinned (.plain (OpenSpec.upto eraBackSpec)) eraBackUptoCard

/-- THE SECOND FORM's CARD OF 'solsticetop.TopLines'. -/
def topLinesUptoCard : Claim7 := { stood := { row := topLinesUptoRow, standIns := [], harness := (true, "f8ad3117b6a5cba4d0263045fe5b0346a26999fe3fc247ec204604b8352a413f"), looks := false }, kinds := [], alts := [], laidByText := true, laidKinds := [.data, .data, .data, .data, .data, .data, .pinned], laidTests := true, laidLooks := .later }
def TopLinesUptoCardSaid : Prop := Claim7.holds Tryz.pinned (.plain (OpenSpec.upto topLinesSpec)) topLinesUptoCard

/-- THE SECOND FORM's CARD OF 'solsticetop.TopShorter'. -/
def topShorterUptoCard : Claim7 := { stood := { row := topShorterUptoRow, standIns := [], harness := (true, "f8ad3117b6a5cba4d0263045fe5b0346a26999fe3fc247ec204604b8352a413f"), looks := false }, kinds := [], alts := [], laidByText := true, laidKinds := [.data, .data, .data, .data, .data, .data, .pinned], laidTests := true, laidLooks := .later }
def TopShorterUptoCardSaid : Prop := Claim7.holds Tryz.pinned (.plain (OpenSpec.upto topShorterSpec)) topShorterUptoCard
end Rows
end Go.Proofs.YtigmbkcjmlpfoaaGreatDoor
